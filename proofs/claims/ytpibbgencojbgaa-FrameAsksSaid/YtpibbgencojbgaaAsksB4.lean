/-
  FrameAsks, the long way.
-/
import Derived.Test.YtpibbgencojbgaaAsks4
namespace Go.Proofs.Ytpibbgencojbgaa
open Go.RowKit
set_option linter.unusedVariables false

structure Env (w : World) (f0 f1 : Fr) (a0 a1 : Option Addr) (cap0 cap1 : Nat) (a2 : Option Addr) (l : List UInt8) (wx : World) : Prop where
  hx : Below w.heap.size w wx
  hf : Box wx w.heap.size f0 a0 cap0
  hg : Box wx (w.heap.size + 1) f1 a1 cap1
  da : BytesAt w.heap.size wx a0 f0.data
  db : BytesAt w.heap.size wx a1 f1.data
  dc : BytesAt w.heap.size wx a2 l
theorem Env.below {w : World} {f0 f1 : Fr} {a0 a1 : Option Addr} {cap0 cap1 : Nat} {a2 : Option Addr} {l : List UInt8} {wx wy : World} (h : Env w f0 f1 a0 a1 cap0 cap1 a2 l wx) (hb : Below wx.heap.size wx wy) : Env w f0 f1 a0 a1 cap0 cap1 a2 l wy :=
  ⟨h.hx.trans (hb.mono h.hx.size), h.hf.below hb, h.hg.below hb, h.da.under (hb.mono h.hx.size), h.db.under (hb.mono h.hx.size), h.dc.under (hb.mono h.hx.size)⟩
/-- a frame that was answered, in its box. -/
structure YBox (wx : World) (p : Nat) (y : Fr) (a : Option Addr) (k : Nat) : Prop where
  box : Box wx p y a k
  dat : BytesAt wx.heap.size wx a y.data
theorem YBox.below {wx wy : World} {p : Nat} {y : Fr} {a : Option Addr} {k : Nat} (h : YBox wx p y a k) (hb : Below wx.heap.size wx wy) : YBox wy p y a k :=
  ⟨h.box.below hb, (h.dat.below hb).mono hb.size⟩
theorem YBox.of {wx : World} {y : Fr} {a : Option Addr} {k : Nat} (h : BytesAt wx.heap.size wx a y.data) : YBox (wx.alloc (.cells #[.int .i64 y.kind, .int .i64 y.chan, .slice a y.data.length k] 48)) wx.heap.size y a k :=
  ⟨Box.of (heap_alloc_new wx _), (h.below ((Below.refl _ _).alloc (Nat.le_refl _) _)).mono (by simp)⟩

set_option maxRecDepth 100000 in
set_option maxHeartbeats 16000000 in
theorem asks_yes (f0 f1 : Fr) (a0 a1 : Option Addr) (cap0 cap1 : Nat) (a2 : Option Addr) (cap2 : Nat) (l : List UInt8) (w : World) (w0 : FrArg w a0 cap0 f0) (w1 : FrArg w a1 cap1 f1) (hl2 : l.length ≤ cap2) (hm2 : cap2 ≤ maxLen) (w2 : BytesAt w.heap.size w a2 l)
    (h0 : f0.data.length ≤ 5000) (h1 : f1.data.length ≤ 5000) (h2 : l.length ≤ 400) (hm : MayF f0) :
    Calls Try.prog 10 #[.agg #[.int .i64 f0.kind, .int .i64 f0.chan, .slice a0 f0.data.length cap0], .agg #[.int .i64 f1.kind, .int .i64 f1.chan, .slice a1 f1.data.length cap1], .slice a2 l.length cap2] w fun e w' => e = .returned (.bool true) ∧ Below w.heap.size w w' := by
  obtain ⟨hl0, hm0, hd0⟩ := w0
  obtain ⟨hl1, hm1, hd1⟩ := w1
  have hk := kind_range hm.1
  have hc := chan_range hm.2.1
  have hbel : Below w.heap.size w ((w.alloc (.cells #[.int .i64 f0.kind, .int .i64 f0.chan, .slice a0 f0.data.length cap0] 48)).alloc (.cells #[.int .i64 f1.kind, .int .i64 f1.chan, .slice a1 f1.data.length cap1] 48)) := ((Below.refl _ _).alloc (Nat.le_refl _) _).alloc (by simp) _
  have hb0 : Box ((w.alloc (.cells #[.int .i64 f0.kind, .int .i64 f0.chan, .slice a0 f0.data.length cap0] 48)).alloc (.cells #[.int .i64 f1.kind, .int .i64 f1.chan, .slice a1 f1.data.length cap1] 48)) w.heap.size f0 a0 cap0 := Box.of (by rw [Below.heap_alloc _ _ _ (by simp)]; exact heap_alloc_new w _)
  have hb1 : Box ((w.alloc (.cells #[.int .i64 f0.kind, .int .i64 f0.chan, .slice a0 f0.data.length cap0] 48)).alloc (.cells #[.int .i64 f1.kind, .int .i64 f1.chan, .slice a1 f1.data.length cap1] 48)) (w.heap.size + 1) f1 a1 cap1 := Box.of (by
    have := heap_alloc_new (w.alloc (.cells #[.int .i64 f0.kind, .int .i64 f0.chan, .slice a0 f0.data.length cap0] 48)) (.cells #[.int .i64 f1.kind, .int .i64 f1.chan, .slice a1 f1.data.length cap1] 48)
    simpa using this)
  obtain ⟨W, hW⟩ : ∃ W, W = ((w.alloc (.cells #[.int .i64 f0.kind, .int .i64 f0.chan, .slice a0 f0.data.length cap0] 48)).alloc (.cells #[.int .i64 f1.kind, .int .i64 f1.chan, .slice a1 f1.data.length cap1] 48)) := ⟨_, rfl⟩
  have i0 : ¬ (5000 : Int) < (f0.data.length : Int) := by omega
  have i1 : ¬ (5000 : Int) < (f1.data.length : Int) := by omega
  have i2 : ¬ (400 : Int) < (l.length : Int) := by omega
  have HD0 := Lib.hid (hd0.under hbel)
  have HD1 := Lib.hid (hd1.under hbel)
  have HD2 := Lib.hid (w2.under hbel)
  have HBEL := Lib.hid hbel
  have HB0 := Lib.hid hb0
  have HB1 := Lib.hid hb1
  have HM := Lib.hid hm
  have HM0 := Lib.hid (And.intro hl0 hm0)
  have HM1 := Lib.hid (And.intro hl1 hm1)
  have HM2 := Lib.hid (And.intro hl2 hm2)
  unfold maxLen at hm0 hm1 hm2
  clear hd0 hd1 w2 hbel hb0 hb1 hm hW
  go_enter Try.func10, Try.ntmps10
  go_wp2_with fail
  generalize hW : ((w.alloc (.cells #[.int .i64 f0.kind, .int .i64 f0.chan, .slice a0 f0.data.length cap0] 48)).alloc (.cells #[.int .i64 f1.kind, .int .i64 f1.chan, .slice a1 f1.data.length cap1] 48)) = X at *
  clear hW
  refine (rmay_any f0.kind f0.chan a0 f0.data.length cap0 X).mono ?_
  rintro e x1 ⟨r, hr, rfl, hb⟩
  obtain rfl : r = true := hr.2 HM.out
  have HX1 := Lib.hid (HBEL.out.trans (hb.mono HBEL.out.size))
  have HF1 := Lib.hid (HB0.out.below hb)
  have HG1 := Lib.hid (HB1.out.below hb)
  obtain ⟨e0, e1, e2⟩ := HB0.out.below hb
  have HDA := Lib.hid (HD0.out.under (hb.mono HBEL.out.size))
  have HDB := Lib.hid (HD1.out.under (hb.mono HBEL.out.size))
  have HDC := Lib.hid (HD2.out.under (hb.mono HBEL.out.size))
  clear hr hb HD0 HD1 HD2 HB0 HB1 HBEL
  go_wp2_with fail
  refine (put_any w.heap.size f0 a0 cap0 HM0.out.1 HM0.out.2 x1 HX1.out.size HDA.out).mono ?_
  rintro e x2 ⟨hb, h⟩
  obtain ⟨v, rfl, hbuf⟩ : ∃ v, e = .returned (.tuple #[v, .int .i64 0]) ∧ Buf x2 x1.heap.size v (putF f0) := by
    rcases h with ⟨h, _⟩ | ⟨_, h⟩
    · exact absurd HM.out h
    · exact h
  obtain ⟨vb, vc, rfl, hvb, hbb⟩ := hbuf.bytes1 (by rw [putF_length]; omega)
  have hbx := HX1.out.size
  have HX2 := Lib.hid (HX1.out.trans (hb.mono hbx))
  have HF2 := Lib.hid (HF1.out.below hb)
  have HG2 := Lib.hid (HG1.out.below hb)
  have HDA2 := Lib.hid (HDA.out.under (hb.mono hbx))
  have HDB2 := Lib.hid (HDB.out.under (hb.mono hbx))
  have HDC2 := Lib.hid (HDC.out.under (hb.mono hbx))
  have HV2 := Lib.hid hbb
  clear h hb hbuf hbb hbx HX1 HF1 HG1 HDA HDB HDC e0 e1 e2
  obtain ⟨str, hstr⟩ : ∃ str : ByteArray, str = ⟨(putF f0).toArray⟩ := ⟨_, rfl⟩
  have KS : ∀ wx, Below x2.heap.size x2 wx → (wx.cell? ⟨w.heap.size, 0, none⟩ = some (.int .i64 f0.kind) ∧ wx.cell? ⟨w.heap.size, 1, none⟩ = some (.int .i64 f0.chan) ∧ wx.cell? ⟨w.heap.size, 2, none⟩ = some (.slice a0 f0.data.length cap0)) ∧
      (convert 25 9 (.slice (some ⟨vb, 0, none⟩) (putF f0).length vc)).run Try.prog wx = .ok (.string str) wx ∧ Below x2.heap.size x2 wx := by
    intro wx hx
    obtain ⟨c0, c1, c2⟩ := HF2.out.below hx
    exact ⟨⟨c0, c1, c2⟩, by rw [hstr]; exact conv_str vc (HV2.out.below hx).at, hx⟩
  have KH := Lib.hid KS
  obtain ⟨kn, hkn⟩ : ∃ n : Nat, f0.kind = n := ⟨f0.kind.toNat, by omega⟩
  obtain ⟨ch, hch⟩ : ∃ n : Nat, f0.chan = n := ⟨f0.chan.toNat, by omega⟩
  have KPUT : ∀ wx, Below x2.heap.size x2 wx → Calls Try.prog 32 #[.agg #[.int .i64 f0.kind, .int .i64 f0.chan, .slice a0 f0.data.length cap0]] wx fun e w' => e = .returned (.string str) ∧ Below wx.heap.size wx w' := by
    intro wx hx
    rw [hstr]
    have h := rput_any w.heap.size kn ch a0 cap0 f0.data (by omega) (by omega) (by omega) wx (Nat.le_trans HX2.out.size hx.size) (HDA2.out.under (hx.mono HX2.out.size))
    rw [← hkn, ← hch] at h
    exact h
  have KP := Lib.hid KPUT
  have q1 : (str.toList == str.toList) = true := by simp
  have q2 : (str.toList != str.toList) = false := by simp
  clear KS KPUT hkn hch hk hc hstr
  go_wp2_with fail
  refine wp_region_noPanic ?_
  refine wp_region_held_drew (S := (fun wx => (wx.cell? ⟨w.heap.size, 0, none⟩ = some (.int .i64 f0.kind) ∧ wx.cell? ⟨w.heap.size, 1, none⟩ = some (.int .i64 f0.chan) ∧ wx.cell? ⟨w.heap.size, 2, none⟩ = some (.slice a0 f0.data.length cap0)) ∧
      (convert 25 9 (.slice (some ⟨vb, 0, none⟩) (putF f0).length vc)).run Try.prog wx = .ok (.string str) wx ∧ Below x2.heap.size x2 wx)) (by kernel_rfl) ?_ (fun hHeld => ?_)
  · exact KH.out _ (Below.refl _ _).drew
  -- 0
  refine wpAnyH_take (i := 0) (oi := ⟨some 46, _, _, _, _, _⟩) (v := ?_) rfl (by kernel_rfl) (by kernel_rfl) (by kernel_rfl) (fun _ _ _ h => h) (Or.inl ⟨by rfl, ?_⟩) (by assumption) ?_
  rotate_left
  · intro w' hSw
    (try dsimp only at hSw)
    go_simp
    try with_reducible rfl
  simp only [Act.put, List.setIfInBounds_toArray, List.set_cons_zero, List.set_cons_succ]
  -- 2
  refine wpAnyH_take (i := 2) (oi := ⟨some 48, _, _, _, _, _⟩) (v := ?_) rfl (by kernel_rfl) (by kernel_rfl) (by kernel_rfl) (fun _ _ _ h => h) (Or.inl ⟨by rfl, ?_⟩) (by assumption) ?_
  rotate_left
  · intro w' hSw
    (try dsimp only at hSw)
    go_simp
    try with_reducible rfl
  simp only [Act.put, List.setIfInBounds_toArray, List.set_cons_zero, List.set_cons_succ]
  -- 1
  refine wpAnyH_ready (rs := [1]) (by kernel_rfl) (by simp) ?_
  refine AllReadyH.cons (o := ⟨some 47, _, _, _, _, _⟩) rfl (fun K hK => ?_) AllReadyH.nil
  go_simp
  go_at_call 31
  have hbx := hHeld.2.2
  refine (may_any _ _ _ _ _ _).mono ?_
  rintro e w5 ⟨r, hr, rfl, hb5⟩
  obtain rfl : r = true := hr.2 HM.out
  have hbz := hbx.trans (hb5.mono hbx.size)
  clear hr hb5 hbx hHeld
  go_wp2_with fail
  refine hK.out _ _ ?_ (fun hHeld => ?_)
  · exact KH.out _ hbz
  clear hK K
  try simp only [Act.put, List.setIfInBounds_toArray, List.set_cons_zero, List.set_cons_succ]
  -- 3
  refine wpAnyH_take (i := 3) (oi := ⟨some 49, _, _, _, _, _⟩) (v := ?_) rfl (by kernel_rfl) (by kernel_rfl) (by kernel_rfl) (fun _ _ _ h => h) (Or.inl ⟨by rfl, ?_⟩) (by assumption) ?_
  rotate_left
  · intro w' hSw
    (try dsimp only at hSw)
    go_simp
    try with_reducible rfl
  simp only [Act.put, List.setIfInBounds_toArray, List.set_cons_zero, List.set_cons_succ]
  -- 4
  refine wpAnyH_take (i := 4) (oi := ⟨some 50, _, _, _, _, _⟩) (v := ?_) rfl (by kernel_rfl) (by kernel_rfl) (by kernel_rfl) (fun _ _ _ h => h) (Or.inl ⟨by rfl, ?_⟩) (by assumption) ?_
  rotate_left
  · intro w' hSw
    (try dsimp only at hSw)
    go_simp
    try with_reducible rfl
  simp only [Act.put, List.setIfInBounds_toArray, List.set_cons_zero, List.set_cons_succ]
  -- 5
  refine wpAnyH_take (i := 5) (oi := ⟨some 51, _, _, _, _, _⟩) (v := ?_) rfl (by kernel_rfl) (by kernel_rfl) (by kernel_rfl) (fun _ _ _ h => h) (Or.inl ⟨by rfl, ?_⟩) (by assumption) ?_
  rotate_left
  · intro w' hSw
    (try dsimp only at hSw)
    go_simp
    try with_reducible rfl
  simp only [Act.put, List.setIfInBounds_toArray, List.set_cons_zero, List.set_cons_succ]
  -- 6
  refine wpAnyH_take (i := 6) (oi := ⟨some 52, _, _, _, _, _⟩) (v := ?_) rfl (by kernel_rfl) (by kernel_rfl) (by kernel_rfl) (fun _ _ _ h => h) (Or.inl ⟨by rfl, ?_⟩) (by assumption) ?_
  rotate_left
  · intro w' hSw
    (try dsimp only at hSw)
    go_simp
    try with_reducible rfl
  simp only [Act.put, List.setIfInBounds_toArray, List.set_cons_zero, List.set_cons_succ]
  -- 7
  refine wpAnyH_take (i := 7) (oi := ⟨some 53, _, _, _, _, _⟩) (v := ?_) rfl (by kernel_rfl) (by kernel_rfl) (by kernel_rfl) (fun _ _ _ h => h) (Or.inl ⟨by rfl, ?_⟩) (by assumption) ?_
  rotate_left
  · intro w' hSw
    (try dsimp only at hSw)
    go_simp
    try with_reducible rfl
  simp only [Act.put, List.setIfInBounds_toArray, List.set_cons_zero, List.set_cons_succ]
  -- 8
  refine wpAnyH_take (i := 8) (oi := ⟨some 54, _, _, _, _, _⟩) (v := ?_) rfl (by kernel_rfl) (by kernel_rfl) (by kernel_rfl) (fun _ _ _ h => h) (Or.inl ⟨by rfl, ?_⟩) (by assumption) ?_
  rotate_left
  · intro w' hSw
    (try dsimp only at hSw)
    go_simp
    try with_reducible rfl
  simp only [Act.put, List.setIfInBounds_toArray, List.set_cons_zero, List.set_cons_succ]
  -- 9
  refine wpAnyH_take (i := 9) (oi := ⟨some 55, _, _, _, _, _⟩) (v := ?_) rfl (by kernel_rfl) (by kernel_rfl) (by kernel_rfl) (fun _ _ _ h => h) (Or.inl ⟨by rfl, ?_⟩) (by assumption) ?_
  rotate_left
  · intro w' hSw
    (try dsimp only at hSw)
    go_simp
    try with_reducible rfl
  simp only [Act.put, List.setIfInBounds_toArray, List.set_cons_zero, List.set_cons_succ]
  -- 10
  refine wpAnyH_take (i := 10) (oi := ⟨some 56, _, _, _, _, _⟩) (v := ?_) rfl (by kernel_rfl) (by kernel_rfl) (by kernel_rfl) (fun _ _ _ h => h) (Or.inl ⟨by rfl, ?_⟩) (by assumption) ?_
  rotate_left
  · intro w' hSw
    (try dsimp only at hSw)
    go_simp
    try with_reducible rfl
  simp only [Act.put, List.setIfInBounds_toArray, List.set_cons_zero, List.set_cons_succ]
  -- 11
  refine wpAnyH_take (i := 11) (oi := ⟨some 57, _, _, _, _, _⟩) (v := ?_) rfl (by kernel_rfl) (by kernel_rfl) (by kernel_rfl) (fun _ _ _ h => h) (Or.inl ⟨by rfl, ?_⟩) (by assumption) ?_
  rotate_left
  · intro w' hSw
    (try dsimp only at hSw)
    go_simp
    try with_reducible rfl
  simp only [Act.put, List.setIfInBounds_toArray, List.set_cons_zero, List.set_cons_succ]
  -- 12
  refine wpAnyH_take (i := 12) (oi := ⟨some 58, _, _, _, _, _⟩) (v := ?_) rfl (by kernel_rfl) (by kernel_rfl) (by kernel_rfl) (fun _ _ _ h => h) (Or.inl ⟨by rfl, ?_⟩) (by assumption) ?_
  rotate_left
  · intro w' hSw
    (try dsimp only at hSw)
    go_simp
    try with_reducible rfl
  simp only [Act.put, List.setIfInBounds_toArray, List.set_cons_zero, List.set_cons_succ]
  -- 13
  refine wpAnyH_ready (rs := [13]) (by kernel_rfl) (by simp) ?_
  refine AllReadyH.cons (o := ⟨some 59, _, _, _, _, _⟩) rfl (fun K hK => ?_) AllReadyH.nil
  go_simp
  go_at_call 32
  have hbx := hHeld.2.2
  refine (KP.out _ hbx).mono ?_
  rintro e w6 ⟨rfl, hb6⟩
  have hby := hbx.trans (hb6.mono hbx.size)
  clear hb6 hbx hbz hHeld
  go_wp2_with fail
  refine hK.out _ _ ?_ (fun hHeld => ?_)
  · exact KH.out _ hby
  clear hK K
  try simp only [Act.put, List.setIfInBounds_toArray, List.set_cons_zero, List.set_cons_succ]
  -- 14
  refine wpAnyH_take (i := 14) (oi := ⟨some 60, _, _, _, _, _⟩) (v := ?_) rfl (by kernel_rfl) (by kernel_rfl) (by kernel_rfl) (fun _ _ _ h => h) (Or.inl ⟨by rfl, ?_⟩) (by assumption) ?_
  rotate_left
  · intro w' hSw
    (try dsimp only at hSw)
    go_simp
    try with_reducible rfl
  simp only [Act.put, List.setIfInBounds_toArray, List.set_cons_zero, List.set_cons_succ]
  -- 15
  refine wpAnyH_take (i := 15) (oi := ⟨some 61, _, _, _, _, _⟩) (v := ?_) rfl (by kernel_rfl) (by kernel_rfl) (by kernel_rfl) (fun _ _ _ h => h) (Or.inl ⟨by rfl, ?_⟩) (by assumption) ?_
  rotate_left
  · intro w' hSw
    (try dsimp only at hSw)
    go_simp
    try with_reducible rfl
  simp only [Act.put, List.setIfInBounds_toArray, List.set_cons_zero, List.set_cons_succ]
  -- 16
  refine wpAnyH_take (i := 16) (oi := ⟨some 62, _, _, _, _, _⟩) (v := ?_) rfl (by kernel_rfl) (by kernel_rfl) (by kernel_rfl) (fun _ _ _ h => h) (Or.inl ⟨by rfl, ?_⟩) (by assumption) ?_
  rotate_left
  · intro w' hSw
    (try dsimp only at hSw)
    go_simp
    try with_reducible rfl
  simp only [Act.put, List.setIfInBounds_toArray, List.set_cons_zero, List.set_cons_succ]
  -- 17
  refine wpAnyH_take (i := 17) (oi := ⟨some 63, _, _, _, _, _⟩) (v := ?_) rfl (by kernel_rfl) (by kernel_rfl) (by kernel_rfl) (fun _ _ _ h => h) (Or.inl ⟨by rfl, ?_⟩) (by assumption) ?_
  rotate_left
  · intro w' hSw
    (try dsimp only at hSw)
    go_simp
    try with_reducible rfl
  simp only [Act.put, List.setIfInBounds_toArray, List.set_cons_zero, List.set_cons_succ]
  -- 18
  refine wpAnyH_take (i := 18) (oi := ⟨some 64, _, _, _, _, _⟩) (v := ?_) rfl (by kernel_rfl) (by kernel_rfl) (by kernel_rfl) (fun _ _ _ h => h) (Or.inl ⟨by rfl, ?_⟩) (by assumption) ?_
  rotate_left
  · intro w' hSw
    (try dsimp only at hSw)
    go_simp
    try with_reducible rfl
  simp only [Act.put, List.setIfInBounds_toArray, List.set_cons_zero, List.set_cons_succ]
  -- 19
  refine wpAnyH_take (i := 19) (oi := ⟨some 65, _, _, _, _, _⟩) (v := ?_) rfl (by kernel_rfl) (by kernel_rfl) (by kernel_rfl) (fun _ _ _ h => h) (Or.inl ⟨by rfl, ?_⟩) (by assumption) ?_
  rotate_left
  · intro w' hSw
    (try dsimp only at hSw)
    go_simp
    try with_reducible rfl
  simp only [Act.put, List.setIfInBounds_toArray, List.set_cons_zero, List.set_cons_succ]
  -- 20
  refine wpAnyH_take (i := 20) (oi := ⟨some 66, _, _, _, _, _⟩) (v := ?_) rfl (by kernel_rfl) (by kernel_rfl) (by kernel_rfl) (fun _ _ _ h => h) (Or.inl ⟨by rfl, ?_⟩) (by assumption) ?_
  rotate_left
  · intro w' hSw
    (try dsimp only at hSw)
    go_simp
    try with_reducible rfl
  simp only [Act.put, List.setIfInBounds_toArray, List.set_cons_zero, List.set_cons_succ]
  -- 21
  refine wpAnyH_take (i := 21) (oi := ⟨some 67, _, _, _, _, _⟩) (v := ?_) rfl (by kernel_rfl) (by kernel_rfl) (by kernel_rfl) (fun _ _ _ h => h) (Or.inl ⟨by rfl, ?_⟩) (by assumption) ?_
  rotate_left
  · intro w' hSw
    (try dsimp only at hSw)
    go_simp
    try with_reducible rfl
  simp only [Act.put, List.setIfInBounds_toArray, List.set_cons_zero, List.set_cons_succ]
  -- 22
  refine wpAnyH_take (i := 22) (oi := ⟨some 68, _, _, _, _, _⟩) (v := undef) rfl (by kernel_rfl) (by kernel_rfl) (by kernel_rfl) (fun _ _ _ h => h) (Or.inr ⟨by rfl, rfl⟩) (by assumption) ?_
  simp only [Act.put, List.setIfInBounds_toArray, List.set_cons_zero, List.set_cons_succ]
  -- 23
  refine wpAnyH_take (i := 23) (oi := ⟨some 69, _, _, _, _, _⟩) (v := undef) rfl (by kernel_rfl) (by kernel_rfl) (by kernel_rfl) (fun _ _ _ h => h) (Or.inr ⟨by rfl, rfl⟩) (by assumption) ?_
  simp only [Act.put, List.setIfInBounds_toArray, List.set_cons_zero, List.set_cons_succ]
  -- 24
  refine wpAnyH_take (i := 24) (oi := ⟨some 70, _, _, _, _, _⟩) (v := undef) rfl (by kernel_rfl) (by kernel_rfl) (by kernel_rfl) (fun _ _ _ h => h) (Or.inr ⟨by rfl, rfl⟩) (by assumption) ?_
  simp only [Act.put, List.setIfInBounds_toArray, List.set_cons_zero, List.set_cons_succ]
  -- 25
  refine wpAnyH_take (i := 25) (oi := ⟨some 71, _, _, _, _, _⟩) (v := undef) rfl (by kernel_rfl) (by kernel_rfl) (by kernel_rfl) (fun _ _ _ h => h) (Or.inr ⟨by rfl, rfl⟩) (by assumption) ?_
  simp only [Act.put, List.setIfInBounds_toArray, List.set_cons_zero, List.set_cons_succ]
  -- 26
  refine wpAnyH_take (i := 26) (oi := ⟨some 72, _, _, _, _, _⟩) (v := undef) rfl (by kernel_rfl) (by kernel_rfl) (by kernel_rfl) (fun _ _ _ h => h) (Or.inr ⟨by rfl, rfl⟩) (by assumption) ?_
  simp only [Act.put, List.setIfInBounds_toArray, List.set_cons_zero, List.set_cons_succ]
  -- 27
  refine wpAnyH_take (i := 27) (oi := ⟨some 73, _, _, _, _, _⟩) (v := undef) rfl (by kernel_rfl) (by kernel_rfl) (by kernel_rfl) (fun _ _ _ h => h) (Or.inr ⟨by rfl, rfl⟩) (by assumption) ?_
  simp only [Act.put, List.setIfInBounds_toArray, List.set_cons_zero, List.set_cons_succ]
  -- 28
  refine wpAnyH_take (i := 28) (oi := ⟨some 74, _, _, _, _, _⟩) (v := undef) rfl (by kernel_rfl) (by kernel_rfl) (by kernel_rfl) (fun _ _ _ h => h) (Or.inr ⟨by rfl, rfl⟩) (by assumption) ?_
  simp only [Act.put, List.setIfInBounds_toArray, List.set_cons_zero, List.set_cons_succ]
  -- 29
  refine wpAnyH_take (i := 29) (oi := ⟨some 75, _, _, _, _, _⟩) (v := ?_) rfl (by kernel_rfl) (by kernel_rfl) (by kernel_rfl) (fun _ _ _ h => h) (Or.inl ⟨by rfl, ?_⟩) (by assumption) ?_
  rotate_left
  · intro w' hSw
    (try dsimp only at hSw)
    go_simp
    try with_reducible rfl
  simp only [Act.put, List.setIfInBounds_toArray, List.set_cons_zero, List.set_cons_succ]
  -- 30
  refine wpAnyH_take (i := 30) (oi := ⟨some 76, _, _, _, _, _⟩) (v := ?_) rfl (by kernel_rfl) (by kernel_rfl) (by kernel_rfl) (fun _ _ _ h => h) (Or.inl ⟨by rfl, ?_⟩) (by assumption) ?_
  rotate_left
  · intro w' hSw
    (try dsimp only at hSw)
    go_simp
    try with_reducible rfl
  simp only [Act.put, List.setIfInBounds_toArray, List.set_cons_zero, List.set_cons_succ]
  refine wpAnyH_done (by kernel_rfl) ?_ _
  refine NoPanic.normal ?_
  have hx26 := HX2.out.size
  have E6 := Lib.hid (show Env w f0 f1 a0 a1 cap0 cap1 a2 l w6 from ⟨HX2.out.trans (hby.mono hx26), HF2.out.below hby, HG2.out.below hby, HDA2.out.under (hby.mono hx26), HDB2.out.under (hby.mono hx26), HDC2.out.under (hby.mono hx26)⟩)
  clear hHeld hby hx26 HX2 HF2 HG2 HDA2 HDB2 HDC2 HV2 KH KP q1 q2
  obtain ⟨y, yn, yc, hy⟩ : ∃ (y : Fr) (n : Nat) (c : Int), nxV (nextP l) = (y, n, c) := ⟨_, _, _, rfl⟩
  have HY := Lib.hid hy
  clear hy
  go_wp2_with fail
  refine (next_any (B := w.heap.size) a2 cap2 l HM2.out.1 HM2.out.2 w6 E6.out.hx.size E6.out.dc).mono ?_
  intro e w7 h
  obtain ⟨hb, ya, yk, rfl, hyat⟩ := next_open h HY.out
  have hba : Below w6.heap.size w6 (w7.alloc (.cells #[.int .i64 y.kind, .int .i64 y.chan, .slice ya y.data.length yk] 48)) := hb.alloc hb.size _
  have YB7 := Lib.hid (YBox.of (k := yk) hyat)
  have e7 := E6.out.below hba
  have hcv := conv_str cap2 e7.dc
  have E7 := Lib.hid e7
  clear h hb hba hyat e7 E6
  go_wp2_with fail
  refine (rnext_any l (by omega) _).mono ?_
  intro e w8 h
  obtain ⟨hb, za, zk, rfl, hzat⟩ := next_open h HY.out
  have hba := hb.alloc hb.size (.cells #[.int .i64 y.kind, .int .i64 y.chan, .slice za y.data.length zk] 48)
  have ZB8 := Lib.hid (YBox.of (k := zk) hzat)
  have YB8 := Lib.hid (YB7.out.below hba)
  have e8 := E7.out.below hba
  have E8 := Lib.hid e8
  have hsz8 := e8.hx.size
  clear h hb hba hzat e8 E7 YB7 hcv
  go_wp2_with fail
  obtain ⟨R1, R2, R3, hR⟩ : ∃ (R1 : List Fr) (R2 : Nat) (R3 : Int), allP (l.length + 1) l = (R1, R2, R3) := ⟨_, _, _, rfl⟩
  obtain ⟨n1, hn1⟩ : ∃ n1, n1 = R1.length := ⟨_, rfl⟩
  have HR := Lib.hid hR
  have HN1 := Lib.hid hn1
  have hn1b : n1 ≤ 400 := by
    have := (allP_data (l.length + 1) l).2.2
    rw [hR] at this
    simp only at this
    omega
  clear hR hn1
  refine (all_any (B := w.heap.size) a2 cap2 l HM2.out.1 HM2.out.2 (by omega) _ hsz8 E8.out.dc).mono ?_
  intro e w9 h
  obtain ⟨hb, ma, mk, rfl, hmf⟩ := all_same h HR.out HN1.out
  have e9 := E8.out.below hb
  have hcv := conv_str cap2 e9.dc
  have E9 := Lib.hid e9
  have YB9 := Lib.hid (YB8.out.below hb)
  have ZB9 := Lib.hid (ZB8.out.below hb)
  have MF9 := Lib.hid hmf
  clear h hb hmf e9 E8 YB8 ZB8 hsz8
  go_wp2_with fail
  refine (rall_any l (by omega) _).mono ?_
  intro e w10 h
  obtain ⟨hb, ka, kk, rfl, hkf⟩ := all_same h HR.out HN1.out
  have E10 := Lib.hid (E9.out.below hb)
  have YB10 := Lib.hid (YB9.out.below hb)
  have ZB10 := Lib.hid (ZB9.out.below hb)
  have MF10 := Lib.hid (MF9.out.below hb)
  have KF10 := Lib.hid hkf
  clear h hb hkf E9 YB9 ZB9 MF9 hcv
  go_wp2_with fail
  go_loopg [22] n1 (asksRel w10 n1)
  case atStart => exact ⟨0, Nat.zero_le _, rfl, rfl, Below.refl _ _⟩
  case round =>
    obtain ⟨i, hi, rfl, rfl, hb⟩ := hrel
    have HBI := Lib.hid hb
    clear hb
    by_cases hlt2 : i < n1
    · have hi0 : (0 : Int) ≤ (i : Int) := by omega
      have hij : (i : Int) < (n1 : Int) := by omega
      have hil : i < R1.length := by rw [← HN1.out]; exact hlt2
      obtain ⟨bm, om, dm, cdm, rfl, hbm, m0, m1, m2, hm3, hm4, hm5'⟩ := MF10.out.get i hil
      obtain ⟨bl, ol, dl, cdl, rfl, hbl, k0, k1, k2, hk3, hk4, hk5⟩ := KF10.out.get i hil
      obtain ⟨u, hu⟩ : ∃ u, u = R1[i] := ⟨_, rfl⟩
      rw [← hu] at m0 m1 m2 hm5' k0 k1 k2 hk5
      have KS : ∀ wx, Below w10.heap.size w10 wx → (wx.cell? ⟨bm, om + i * 3, none⟩ = some (.int .i64 u.kind) ∧ wx.cell? ⟨bm, om + i * 3 + 1, none⟩ = some (.int .i64 u.chan) ∧ wx.cell? ⟨bm, om + i * 3 + 2, none⟩ = some (.slice dm u.data.length cdm)) ∧ (wx.cell? ⟨bl, ol + i * 3, none⟩ = some (.int .i64 u.kind) ∧ wx.cell? ⟨bl, ol + i * 3 + 1, none⟩ = some (.int .i64 u.chan) ∧ wx.cell? ⟨bl, ol + i * 3 + 2, none⟩ = some (.slice dl u.data.length cdl)) ∧ Below w10.heap.size w10 wx := by
        intro wx hx
        exact ⟨⟨(hx.cell hbm).trans m0, (hx.cell hbm).trans m1, (hx.cell hbm).trans m2⟩, ⟨(hx.cell hbl).trans k0, (hx.cell hbl).trans k1, (hx.cell hbl).trans k2⟩, hx⟩
      have KSAME : ∀ wx, Below w10.heap.size w10 wx → Calls Try.prog 37 #[.agg #[.int .i64 u.kind, .int .i64 u.chan, .slice dm u.data.length cdm], .agg #[.int .i64 u.kind, .int .i64 u.chan, .slice dl u.data.length cdl]] wx fun e w' => e = .returned (.bool true) ∧ Below wx.heap.size wx w' := fun wx hx => by
        have h := rsame_b u u dm dl cdm cdl wx hx.size hx.size (hm5'.under hx) (hk5.under hx)
        rw [sameB_self] at h
        exact h
      have KH := Lib.hid KS
      have KM := Lib.hid KSAME
      have e1 : IntKind.i64.wrap ((i : Int) + 1) = (i : Int) + 1 := IntWalk.i64_in _ (by omega)
      clear KS KSAME m0 m1 m2 k0 k1 k2 hm3 hm4 hm5' hk3 hk4 hk5 hu hil
      go_wp2_with fail
      go_region_held3 (fun wx => (wx.cell? ⟨bm, om + i * 3, none⟩ = some (.int .i64 u.kind) ∧ wx.cell? ⟨bm, om + i * 3 + 1, none⟩ = some (.int .i64 u.chan) ∧ wx.cell? ⟨bm, om + i * 3 + 2, none⟩ = some (.slice dm u.data.length cdm)) ∧ (wx.cell? ⟨bl, ol + i * 3, none⟩ = some (.int .i64 u.kind) ∧ wx.cell? ⟨bl, ol + i * 3 + 1, none⟩ = some (.int .i64 u.chan) ∧ wx.cell? ⟨bl, ol + i * 3 + 2, none⟩ = some (.slice dl u.data.length cdl)) ∧ Below w10.heap.size w10 wx)
        (first | exact KH.out _ HBI.out.drew | exact KH.out _ (by assumption))
        ((go_at_call 37; have hbx := (by assumption : _ ∧ _ ∧ Below _ _ _).2.2; refine (KM.out _ hbx).mono ?_; rintro e w3 ⟨rfl, hb3⟩; have hbz := hbx.trans (hb3.mono hbx.size); clear hb3 hbx))
      have HBZ := Lib.hid hbz
      rename_i hHeld
      clear hHeld hbz
      go_wp2_with fail
      go_roundg (n1 - (i + 1))
      case measure => omega
      case rel => exact ⟨i + 1, by omega, rfl, by simp, HBZ.out⟩
    · have hij : ¬ (i : Int) < (n1 : Int) := by omega
      obtain ⟨y0, y1, y2⟩ := (YB10.out.below HBI.out).box
      have KS : ∀ wx, Below w10.heap.size w10 wx → (wx.cell? ⟨w7.heap.size, 0, none⟩ = some (.int .i64 y.kind) ∧ wx.cell? ⟨w7.heap.size, 1, none⟩ = some (.int .i64 y.chan) ∧ wx.cell? ⟨w7.heap.size, 2, none⟩ = some (.slice ya y.data.length yk)) ∧
          (wx.cell? ⟨w8.heap.size, 0, none⟩ = some (.int .i64 y.kind) ∧ wx.cell? ⟨w8.heap.size, 1, none⟩ = some (.int .i64 y.chan) ∧ wx.cell? ⟨w8.heap.size, 2, none⟩ = some (.slice za y.data.length zk)) ∧
          (wx.cell? ⟨w.heap.size, 0, none⟩ = some (.int .i64 f0.kind) ∧ wx.cell? ⟨w.heap.size, 1, none⟩ = some (.int .i64 f0.chan) ∧ wx.cell? ⟨w.heap.size, 2, none⟩ = some (.slice a0 f0.data.length cap0)) ∧
          (wx.cell? ⟨w.heap.size + 1, 0, none⟩ = some (.int .i64 f1.kind) ∧ wx.cell? ⟨w.heap.size + 1, 1, none⟩ = some (.int .i64 f1.chan) ∧ wx.cell? ⟨w.heap.size + 1, 2, none⟩ = some (.slice a1 f1.data.length cap1)) ∧ Below w10.heap.size w10 wx := by
        intro wx hx
        obtain ⟨b0, b1, b2⟩ := (YB10.out.below hx).box
        obtain ⟨c0, c1, c2⟩ := (ZB10.out.below hx).box
        obtain ⟨d0, d1, d2⟩ := E10.out.hf.below hx
        obtain ⟨g0, g1, g2⟩ := E10.out.hg.below hx
        exact ⟨⟨b0, b1, b2⟩, ⟨c0, c1, c2⟩, ⟨d0, d1, d2⟩, ⟨g0, g1, g2⟩, hx⟩
      have K1 : ∀ wx, Below w10.heap.size w10 wx → Calls Try.prog 37 #[.agg #[.int .i64 y.kind, .int .i64 y.chan, .slice ya y.data.length yk], .agg #[.int .i64 y.kind, .int .i64 y.chan, .slice za y.data.length zk]] wx fun e w' => e = .returned (.bool true) ∧ Below wx.heap.size wx w' := fun wx hx => by
        have h := rsame_b y y ya za yk zk wx hx.size hx.size (YB10.out.dat.under hx) (ZB10.out.dat.under hx)
        rw [sameB_self] at h
        exact h
      have K2 : ∀ wx, Below w10.heap.size w10 wx → Calls Try.prog 37 #[.agg #[.int .i64 f0.kind, .int .i64 f0.chan, .slice a0 f0.data.length cap0], .agg #[.int .i64 f1.kind, .int .i64 f1.chan, .slice a1 f1.data.length cap1]] wx fun e w' => e = .returned (.bool (sameB f0 f1)) ∧ Below wx.heap.size wx w' := fun wx hx =>
        rsame_b f0 f1 a0 a1 cap0 cap1 wx (Nat.le_trans E10.out.hx.size hx.size) (Nat.le_trans E10.out.hx.size hx.size) (E10.out.da.under (hx.mono E10.out.hx.size)) (E10.out.db.under (hx.mono E10.out.hx.size))
      have K3 : ∀ wx, Below w10.heap.size w10 wx → Calls Try.prog 38 #[.agg #[.int .i64 f0.kind, .int .i64 f0.chan, .slice a0 f0.data.length cap0], .agg #[.int .i64 f1.kind, .int .i64 f1.chan, .slice a1 f1.data.length cap1]] wx fun e w' => e = .returned (.bool (sameB f0 f1)) ∧ Below wx.heap.size wx w' := fun wx hx =>
        same_b f0 f1 a0 a1 cap0 cap1 wx (Nat.le_trans E10.out.hx.size hx.size) (Nat.le_trans E10.out.hx.size hx.size) (E10.out.da.under (hx.mono E10.out.hx.size)) (E10.out.db.under (hx.mono E10.out.hx.size))
      obtain ⟨sb, hsb⟩ : ∃ sb, sb = sameB f0 f1 := ⟨_, rfl⟩
      rw [← hsb] at K2 K3
      have KH := Lib.hid KS
      have H1 := Lib.hid K1
      have H2 := Lib.hid K2
      have H3 := Lib.hid K3
      have HX10 := Lib.hid E10.out.hx
      clear KS K1 K2 K3 y0 y1 y2 hsb MF10 KF10 YB10 ZB10 E10
      go_wp2_with fail
      go_region_held3 (fun wx => (wx.cell? ⟨w7.heap.size, 0, none⟩ = some (.int .i64 y.kind) ∧ wx.cell? ⟨w7.heap.size, 1, none⟩ = some (.int .i64 y.chan) ∧ wx.cell? ⟨w7.heap.size, 2, none⟩ = some (.slice ya y.data.length yk)) ∧
          (wx.cell? ⟨w8.heap.size, 0, none⟩ = some (.int .i64 y.kind) ∧ wx.cell? ⟨w8.heap.size, 1, none⟩ = some (.int .i64 y.chan) ∧ wx.cell? ⟨w8.heap.size, 2, none⟩ = some (.slice za y.data.length zk)) ∧
          (wx.cell? ⟨w.heap.size, 0, none⟩ = some (.int .i64 f0.kind) ∧ wx.cell? ⟨w.heap.size, 1, none⟩ = some (.int .i64 f0.chan) ∧ wx.cell? ⟨w.heap.size, 2, none⟩ = some (.slice a0 f0.data.length cap0)) ∧
          (wx.cell? ⟨w.heap.size + 1, 0, none⟩ = some (.int .i64 f1.kind) ∧ wx.cell? ⟨w.heap.size + 1, 1, none⟩ = some (.int .i64 f1.chan) ∧ wx.cell? ⟨w.heap.size + 1, 2, none⟩ = some (.slice a1 f1.data.length cap1)) ∧ Below w10.heap.size w10 wx)
        (first | exact KH.out _ HBI.out.drew | exact KH.out _ (by assumption))
        (first
          | (go_at_call 28; have hbx := (by assumption : _ ∧ _ ∧ _ ∧ _ ∧ Below _ _ _).2.2.2.2; refine (told_any _).mono ?_; rintro e w3 ⟨rfl, hb3⟩; have hbz := hbx.trans (hb3.mono hbx.size); clear hb3 hbx)
          | (go_at_call 38; have hbx := (by assumption : _ ∧ _ ∧ _ ∧ _ ∧ Below _ _ _).2.2.2.2; refine (H3.out _ hbx).mono ?_; rintro e w3 ⟨rfl, hb3⟩; have hbz := hbx.trans (hb3.mono hbx.size); clear hb3 hbx)
          | (go_at_call 37; have hbx := (by assumption : _ ∧ _ ∧ _ ∧ _ ∧ Below _ _ _).2.2.2.2; (first | (with_reducible refine (H1.out _ hbx).mono ?_) | (with_reducible refine (H2.out _ hbx).mono ?_)); rintro e w3 ⟨rfl, hb3⟩; have hbz := hbx.trans (hb3.mono hbx.size); clear hb3 hbx))
      have HBZ := Lib.hid hbz
      rename_i hHeld
      clear hHeld hbz
      go_wp2_with fail
      go_ret
      exact ⟨by first | rfl | simp, HX10.out.trans (HBZ.out.mono HX10.out.size)⟩

end Go.Proofs.Ytpibbgencojbgaa
