/-
  Law RouteKinds, walked.
-/
import Derived.Test.YtlghphmehlmehaaDoorR8Few
import Derived.Test.YtlghphmehlmehaaDoorR8Bnd
import Derived.Laws.AppendOwnNone
namespace Go.Proofs.YtlghphmehlmehaaDoor.Rt
open Go.RowKit Top
set_option linter.unusedVariables false

/-- all of a row that came in, onto an empty one. -/
theorem put_all {ops : Array Oper} {rest : List Oper} {o : Oper} {a : Act} {Q : Exit → Act → World → Prop} {w : World} {base : Nat} {v : Value} {l : List Bd} {a0 : Option Addr} {cap : Nat} (hgd : o.guard = none) (s y : Operand)
    (ho : o.op = .call { callee := .builtin .append, args := #[s, y], argTypes := #[22, 22] }) (hb : OwnB w base v []) (hbase : base ≤ w.heap.size)
    (hs : a.eval s = v) (hx : a.eval y = .slice a0 l.length cap) (hat : BsAt w a0 cap l) (hsz : l.length * 56 ≤ 140737488351232) (hn0 : a0 = none → cap = 0)
    (h : ∀ v' w', OwnB w' base v' l → w.grownBy w' v.ownBlock → wpList Tryd.prog ops Q rest (a.put o.dst v') w') : wpList Tryd.prog ops Q (o :: rest) a w := by
  obtain ⟨i0, hi, hz0, hz1, hz2⟩ := info_parts bd_info
  cases a0 with
  | none =>
    obtain rfl := rows_none hat
    rw [hn0 rfl] at hx
    exact wpList_append_own_none hgd s y 22 ho base 28 i0 4 Tryd.underlying22 hi v 0 [] hs hb hx (h v w hb ⟨rfl, rfl, rfl, Nat.le_refl _, fun _ _ _ => rfl⟩)
  | some x =>
    refine wpList_append_own_at _ hgd s y 22 ho base 28 i0 _ 4 56 Tryd.underlying22 hi hz0 hz1 hz2 rfl (by decide) v 0 [] hs hb x l.length cap (l.flatMap bdC) hx (flats_length bdC_len l) (rows_src bdC_len (by decide) hat) (bdC_one l) (by unfold maxLen; omega) (by omega) hbase ?_
    intro v2 w2 hb2 hg2 _ _
    refine h v2 w2 ?_ hg2
    rw [Nat.zero_add] at hb2
    exact hb2

theorem wantL_mem (e : Ex) (key : List UInt8) (M : List Bd) (hM : ∀ b ∈ M, b.ex = e.name) (r : List UInt8) : r ∈ wantL e key M ↔ ∃ b ∈ M, wantB e.kind b.key key = true ∧ b.q = r := by
  unfold wantL
  rw [wantS_mem]
  have ht : ∀ b ∈ M, takes e key b = wantB e.kind b.key key := fun b hb => by
    unfold takes
    rw [decide_eq_true (hM b hb)]
    rfl
  constructor
  · rintro (h | ⟨b, hb, h1, h2⟩)
    · simp at h
    · exact ⟨b, hb, by rw [← ht b hb]; exact h1, h2⟩
  · rintro ⟨b, hb, h1, h2⟩
    exact .inr ⟨b, hb, by rw [ht b hb]; exact h1, h2⟩
theorem nodup_ne {l : List (List UInt8)} (h : l.Nodup) (i j : Nat) (hi : i < l.length) (hj : j < i) : (l[j] == l[i]) = false := by
  have := (List.pairwise_iff_getElem.1 h) j i (by omega) hi hj
  simpa using this
/-- nothing but draws and new blocks since w. -/
def cntRel (w : World) (N : Nat) (m : Nat) (v : Value) (wr : World) : Prop :=
  ∃ i : Nat, i ≤ N ∧ m = N - i ∧ v = .int .i64 i ∧ Below w.heap.size w wr
/-- is the queue among the first of these? -/
def inRel (w : World) (Q : List (List UInt8)) (r : List UInt8) (m : Nat) (v17 v18 : Value) (wr : World) : Prop :=
  ∃ j : Nat, j ≤ Q.length ∧ m = Q.length - j ∧ v17 = .bool (decide (r ∈ Q.take j)) ∧ v18 = .int .i64 j ∧ Below w.heap.size w wr
theorem take_mem {Q : List (List UInt8)} {r : List UInt8} {j : Nat} (h : j < Q.length) : r ∈ Q.take (j + 1) ↔ r ∈ Q.take j ∨ r = Q[j] := by
  rw [List.take_succ_eq_append_getElem h, List.mem_append]
  simp
theorem in_step {Q : List (List UInt8)} {r : List UInt8} {j : Nat} {x : List UInt8} (h : r ∈ Q.take (j + 1) ↔ r ∈ Q.take j ∨ r = x) (hd : decide (r ∈ Q.take j) = false) : decide (r ∈ Q.take (j + 1)) = (x == r) := by
  have hn : ¬ r ∈ Q.take j := by simpa using hd
  by_cases hx : r = x
  · rw [decide_eq_true (h.2 (.inr hx))]; simp [hx]
  · rw [decide_eq_false (fun hh => (h.1 hh).elim hn hx)]
    symm
    simpa using fun h' : x = r => hx h'.symm
theorem in_stay {Q : List (List UInt8)} {r : List UInt8} {j : Nat} {x : List UInt8} (h : r ∈ Q.take (j + 1) ↔ r ∈ Q.take j ∨ r = x) (hd : decide (r ∈ Q.take j) = true) : decide (r ∈ Q.take (j + 1)) = true :=
  decide_eq_true (h.2 (.inl (by simpa using hd)))
/-- does one of the first of these bindings lead to the queue? -/
def smB (M : List Bd) (k : Int) (key r : List UInt8) (i : Nat) : Bool := (M.take i).any fun b => wantB k b.key key && (b.q == r)
theorem smB_succ (M : List Bd) (k : Int) (key r : List UInt8) (i : Nat) (h : i < M.length) : smB M k key r (i + 1) = (smB M k key r i || (wantB k M[i].key key && (M[i].q == r))) := by
  unfold smB
  rw [List.take_succ_eq_append_getElem h, List.any_append]
  simp
def someRel (w : World) (M : List Bd) (k : Int) (key r : List UInt8) (m : Nat) (v20 v21 : Value) (wr : World) : Prop :=
  ∃ i : Nat, i ≤ M.length ∧ m = M.length - i ∧ v20 = .bool (smB M k key r i) ∧ v21 = .int .i64 i ∧ Below w.heap.size w wr
def kd1Rel (W : World) (v : Value) (l : List Bd) (m : Nat) (v10 : Value) (wr : World) : Prop :=
  ∃ i : Nat, i ≤ l.length ∧ m = l.length - i ∧ v10 = .int .i64 i ∧ Below W.heap.size W wr ∧ OwnB wr W.heap.size v (cpN l i)

set_option maxRecDepth 100000 in
set_option maxHeartbeats 1000000 in
set_option pp.deepTerms true in
set_option pp.maxSteps 300000 in
theorem kinds_any (a0 : Option Addr) (cap0 : Nat) (l0 : List Bd) (p1 : Int) (p2 : ByteArray) (w : World) (w0 : BArg w a0 cap0 l0) (w2 : p2.size ≤ maxLen) :
    Calls Tryd.prog 3 #[.slice a0 l0.length cap0, .int .i64 p1, .string p2] w fun e w' => e = .returned (.bool true) ∧ Below w.heap.size w w' := by
  obtain ⟨key, rfl⟩ : ∃ s : List UInt8, p2 = ⟨s.toArray⟩ := ⟨p2.data.toList, by cases p2; simp⟩
  have hsz : (⟨key.toArray⟩ : ByteArray).size = key.length := rfl
  have HT := Lib.hid told_any
  obtain ⟨q, hq, lq⟩ := u64_rem p1 3 (by decide)
  rw [show ((3 : Nat) : Int) = 3 from rfl] at hq
  have wq : IntKind.i64.wrap (q : Int) = (q : Int) := IntWalk.i64_in _ (by omega)
  have wq1 : IntKind.i64.wrap (1 + (q : Int)) = 1 + (q : Int) := IntWalk.i64_in _ (by omega)
  rw [hsz] at w2
  unfold maxLen at w2
  have HX := Lib.hid (xs_lit w ⟨[101], 1 + (q : Int)⟩)
  obtain ⟨W, hW⟩ : ∃ W, W = w.alloc (.cells #[.string ⟨#[101]⟩, .int .i64 (1 + (q : Int))] 25) := ⟨_, rfl⟩
  have hWb : Below w.heap.size w W := by rw [hW]; exact (Below.refl _ _).alloc (Nat.le_refl _) _
  have hWs : W.heap.size = w.heap.size + 1 := by rw [hW]; simp
  have hWX : XsAt W (some ⟨w.heap.size, 0, none⟩) 1 [⟨[101], 1 + (q : Int)⟩] := by rw [hW]; exact HX.out
  have hE : Below W.heap.size W (W.alloc (.cells #[] 28)) := (Below.refl _ _).alloc (Nat.le_refl _) _
  have HE := Lib.hid hE
  have hown : OwnB (W.alloc (.cells #[] 28)) W.heap.size (.slice (some ⟨W.heap.size, 0, none⟩) 0 0) [] := World.ownsRow_made W #[] 0 (Nat.le_refl _) (by decide) (by simp)
  rw [show (Value.slice (some ⟨W.heap.size, 0, none⟩) 0 0) = .slice (some ⟨w.heap.size + 1, 0, none⟩) 0 0 by rw [hWs]] at hown
  have HOWN := Lib.hid hown
  have HAT := Lib.hid (w0.at'.below (hWb.trans (hE.mono hWb.size)))
  have HSZ := Lib.hid w0.size
  have HN0 := Lib.hid w0.none
  have HWB := Lib.hid hWb
  have HWX := Lib.hid hWX
  have HWS := Lib.hid hWs
  have HW := Lib.hid hW
  clear w0 hE hown hWb hWX hWs HX hW
  go_enter Tryd.func3, Tryd.ntmps3
  go_wp2_with (at_builtin; rw [← HW.out]; refine put_all (base := W.heap.size) rfl (.tmp 30) (.tmp 31) rfl HOWN.out HE.out.size rfl rfl HAT.out HSZ.out HN0.out ?_; intro v2 w2 hown2 hg2; obtain ⟨c, cc, rfl, hat2⟩ := OwnB.at hown2; have HOWN2 := Lib.hid hown2; have HB2 := Lib.hid (OwnB.grown HE.out HOWN.out hg2 HE.out.size); clear hown2 hg2 hat2)
  have HOWN0 := Lib.hid (show OwnB w2 W.heap.size (.slice c l0.length cc) (cpN l0 0) from HOWN2.out)
  clear HE HOWN HAT HN0 HW HOWN2
  go_loopg [10] l0.length (kd1Rel W (.slice c l0.length cc) l0)
  case atStart => exact ⟨0, Nat.zero_le _, rfl, rfl, HB2.out, HOWN0.out⟩
  case round =>
    obtain ⟨i, hi, rfl, rfl, hb, hown⟩ := hrel
    by_cases hlt : i < l0.length
    · obtain ⟨g, cap, he, hbg, m0, m3, f0, f3, hset⟩ := own_set hown i (by rw [cpN_length]; exact hlt)
      injection he with e1 e2 e3
      subst e1 e3
      rw [cpN_get l0 i hlt, ← cpN_succ l0 i hlt] at hset
      have HSET := Lib.hid hset
      have HB3 := Lib.hid (((hb.setCell (p := ⟨g, i * 4, none⟩) hbg (.string ⟨#[101]⟩))).setCell (p := ⟨g, i * 4 + 3, none⟩) hbg (.int .i64 0))
      have i1 : (i : Int) < (l0.length : Int) := by omega
      have i3 : (0 : Int) ≤ (i : Int) := by omega
      have i2 : IntKind.i64.wrap ((i : Int) + 1) = (i : Int) + 1 := by have := HSZ.out; exact IntWalk.i64_in _ (by omega)
      clear hb hown hset e2
      go_wp2_with fail
      go_roundg (l0.length - (i + 1))
      case measure => omega
      case rel => exact ⟨i + 1, by omega, rfl, rfl, HB3.out, HSET.out⟩
    · obtain rfl : i = l0.length := by omega
      have i1 : ¬ ((l0.length : Int) < (l0.length : Int)) := by omega
      rw [cpN_all] at hown
      have hMn : ∀ b ∈ l0.map nrm, b.ex = [101] := by
        intro b hb
        obtain ⟨b', _, rfl⟩ := List.mem_map.1 hb
        rfl
      have hlen : l0.length = (l0.map nrm).length := by simp
      rw [hlen] at hown ⊢
      have HSZM := HSZ.out
      rw [hlen] at HSZM
      generalize l0.map nrm = M at hown hMn HSZM ⊢
      obtain ⟨c', cc', he, hat⟩ := OwnB.at hown
      injection he with e1 _ e3
      subst e1 e3
      have hXr := HWX.out.below hb
      have HB3 := Lib.hid hb
      have HFEW := Lib.hid (few_any (some ⟨w.heap.size, 0, none⟩) 1 [⟨[101], 1 + (q : Int)⟩] c cc M wr hXr hat)
      have HMAY := Lib.hid (mayR_any (some ⟨w.heap.size, 0, none⟩) 1 [⟨[101], 1 + (q : Int)⟩] c cc M wr hXr hat)
      have HXR := Lib.hid hXr
      have HAT := Lib.hid hat
      have HMN := Lib.hid hMn
      have HSM := Lib.hid HSZM
      clear hb hown hMn HSZM HOWN0 hXr hat hlen hi hlt HSZ HB2 HWX
      go_wp2_with fail
      refine HFEW.out.mono ?_
      rintro e w3 ⟨r, rfl, hr, rfl⟩
      cases r
      · clear hr
        go_wp2_with (go_at_call 9; refine (HT.out _).mono ?_; rintro e w4 ⟨rfl, hb4⟩; have HB4 := Lib.hid (HWB.out.trans ((HB3.out.trans (hb4.mono HB3.out.size)).mono HWB.out.size)); clear hb4)
        go_ret
        exact ⟨rfl, HB4.out⟩
      have HR := Lib.hid (hr rfl)
      clear hr
      by_cases h100 : 100 < key.length
      · have h100' : (100 : Int) < (key.length : Int) := by omega
        go_wp2_with (go_at_call 9; refine (HT.out _).mono ?_; rintro e w4 ⟨rfl, hb4⟩; have HB4 := Lib.hid (HWB.out.trans ((HB3.out.trans (hb4.mono HB3.out.size)).mono HWB.out.size)); clear hb4)
        go_ret
        exact ⟨rfl, HB4.out⟩
      have h100' : ((100 : Int) < (key.length : Int)) = False := by simp; omega
      by_cases hmay : MayR [(⟨[101], 1 + (q : Int)⟩ : Ex)] M
      case neg =>
        rw [decide_eq_false hmay] at HMAY
        clear hmay
        go_wp2_with (first | (go_at_call 8; refine HMAY.out.mono ?_; rintro e w3 ⟨rfl, hb3⟩; have HB4 := Lib.hid (HB3.out.trans (hb3.mono HB3.out.size)); clear hb3) | (go_at_call 9; refine (HT.out _).mono ?_; rintro e w4 ⟨rfl, hb4⟩; have HB5 := Lib.hid (HWB.out.trans ((HB4.out.trans (hb4.mono HB4.out.size)).mono HWB.out.size)); clear hb4))
        go_ret
        exact ⟨rfl, HB5.out⟩
      rw [decide_eq_true hmay] at HMAY
      clear hmay
      have hlq : ∀ b ∈ M, b.q.length ≤ 1000000 ∧ b.key.length ≤ 1000000 := by
        intro b hb
        obtain ⟨j, hj, rfl⟩ := List.getElem_of_mem hb
        have := HR.out.2 j hj
        exact ⟨by have := this.2.1; omega, by have := this.2.2; omega⟩
      have HLQ := Lib.hid hlq
      have hQ := fun wx (hbx : Below wr.heap.size wr wx) => queues_some (some ⟨w.heap.size, 0, none⟩) 1 [⟨[101], 1 + (q : Int)⟩] c cc M [101] key 0 (by simp) (by simp) (fnd_one [101] (1 + (q : Int))) (by show ¬ (1 + (q : Int)) = 4; omega) (by have := HR.out.1; omega) (by omega) HLQ.out wx (HXR.out.below hbx) (HAT.out.below hbx)
      have HQ := Lib.hid hQ
      clear hlq hQ
      go_wp2_with (first | (go_at_call 8; refine HMAY.out.mono ?_; rintro e w3 ⟨rfl, hb3⟩; have HB4 := Lib.hid hb3; clear hb3) | (go_at_call 10; refine (HQ.out _ HB4.out).mono ?_; rintro e w5 ⟨hb5, v5, rfl, hown5⟩; obtain ⟨qa, qc, rfl, hqc, hqat⟩ := hown5.strs; have HB5 := Lib.hid (HB4.out.trans (hb5.mono HB4.out.size)); have HQAT := Lib.hid hqat; clear hb5 hown5 hqat))
      have hmem := wantL_mem ⟨[101], 1 + (q : Int)⟩ key M HMN.out
      have hnd := wantS_nodup ⟨[101], 1 + (q : Int)⟩ key M [] (by simp)
      rw [show wantS ⟨[101], 1 + (q : Int)⟩ key [] M = wantL ⟨[101], 1 + (q : Int)⟩ key M from rfl] at hnd
      have hqat : StrsAt w5 qa qc (wantL ⟨[101], 1 + (q : Int)⟩ key M) := HQAT.out
      have HBS := Lib.hid (HAT.out.below HB5.out)
      have HB6 := Lib.hid (HWB.out.trans ((HB3.out.trans (HB5.out.mono HB3.out.size)).mono HWB.out.size))
      generalize wantL ⟨[101], 1 + (q : Int)⟩ key M = Q at hmem hnd hqat ⊢
      have HMEM := Lib.hid hmem
      have HND := Lib.hid hnd
      have hq63 : Q.length ≤ 9223372036854775807 := by have := hqat.len; unfold maxLen at hqc; omega
      have HQS := Lib.hid hqat
      have hm20 : M.length ≤ 20 := HR.out.1
      have HLK := Lib.hid (fun b hb => (HLQ.out b hb).2)
      clear hmem hnd hqat HQAT HQ HB4 HB5 HFEW HMAY HXR HAT HMN HSM HR HLQ hqc
      go_loopg [13] Q.length (cntRel w5 Q.length)
      case atStart => exact ⟨0, Nat.zero_le _, rfl, rfl, Below.refl _ _⟩
      case round =>
        obtain ⟨i, hi, rfl, rfl, hb⟩ := hrel
        have HBW := Lib.hid hb
        clear hb
        by_cases hlt : i < Q.length
        · have i1 : (i : Int) < (Q.length : Int) := by omega
          have i2 : IntKind.i64.wrap ((i : Int) + 1) = (i : Int) + 1 := IntWalk.i64_in _ (by omega)
          have i3 : (0 : Int) ≤ (i : Int) := by omega
          go_wp2_with fail
          go_loopg [14] i (cntRel w5 i)
          case atStart => exact ⟨0, Nat.zero_le _, rfl, rfl, HBW.out⟩
          case round =>
            obtain ⟨j, hj, rfl, rfl, hb⟩ := hrel
            have HBJ := Lib.hid hb
            by_cases hjt : j < i
            · have j1 : (j : Int) < (i : Int) := by omega
              have j2 : IntKind.i64.wrap ((j : Int) + 1) = (j : Int) + 1 := IntWalk.i64_in _ (by omega)
              have j3 : (0 : Int) ≤ (j : Int) := by omega
              have j4 : (j : Int) < (Q.length : Int) := by omega
              obtain ⟨b, o, rfl, hc⟩ := (HQS.out.below hb).at' (by omega)
              have c1 := hc i hlt
              have c2 := hc j (by omega)
              have hne := nodup_ne HND.out i j hlt hjt
              unfold str at c1 c2
              clear hc hb
              go_wp2_with fail
              go_quiet (fail)
              go_wp2_with fail
              go_roundg (i - (j + 1))
              case measure => omega
              case rel => exact ⟨j + 1, by omega, rfl, by simp, Below.drewN HBJ.out _⟩
            · obtain rfl : j = i := by omega
              have j1 : ¬ ((j : Int) < (j : Int)) := by omega
              go_wp2_with fail
              go_roundg (Q.length - (j + 1))
              case measure => omega
              case rel => exact ⟨j + 1, by omega, rfl, by simp, HBJ.out⟩
        · obtain rfl : i = Q.length := by omega
          have i1 : ¬ ((Q.length : Int) < (Q.length : Int)) := by omega
          go_wp2_with fail
          go_loopg [15] M.length (cntRel w5 M.length)
          case atStart => exact ⟨0, Nat.zero_le _, rfl, rfl, HBW.out⟩
          case round =>
            obtain ⟨i, hi, rfl, rfl, hb⟩ := hrel
            have HBI := Lib.hid hb
            by_cases hlt : i < M.length
            · have i1 : (i : Int) < (M.length : Int) := by omega
              have i2 : IntKind.i64.wrap ((i : Int) + 1) = (i : Int) + 1 := IntWalk.i64_in _ (by omega)
              have i3 : (0 : Int) ≤ (i : Int) := by omega
              have HMI := Lib.hid (List.getElem_mem hlt)
              have hmat := match_any M[i].key key (HLK.out _ HMI.out) (by omega)
              obtain ⟨b, o, rfl, c0, c1, c2, c3⟩ := BsAt.get (HBS.out.below hb) i hlt
              have HCS := Lib.hid (fun wx (hbx : Below w5.heap.size w5 wx) => BsAt.get (HBS.out.below hbx) i hlt)
              have HTM := Lib.hid (show wantB (1 + (q : Int)) M[i].key key = true → M[i].q ∈ Q from fun h => (HMEM.out _).2 ⟨M[i], HMI.out, h, rfl⟩)
              have hways : (q = 0 ∧ ∃ t, (M[i].key == key) = t ∧ wantB (1 + (q : Int)) M[i].key key = t) ∨ (q = 1 ∧ wantB (1 + (q : Int)) M[i].key key = true) ∨ (q = 2 ∧ ∃ t, matchB M[i].key key = t ∧ wantB (1 + (q : Int)) M[i].key key = t) := by
                have : q = 0 ∨ q = 1 ∨ q = 2 := by omega
                rcases this with h | h | h
                · subst h; exact .inl ⟨rfl, _, rfl, rfl⟩
                · subst h; exact .inr (.inl ⟨rfl, rfl⟩)
                · subst h; exact .inr (.inr ⟨rfl, _, rfl, rfl⟩)
              clear hb
              rcases hways with ⟨hq0, t, ht, hwt⟩ | ⟨hq0, hwt⟩ | ⟨hq0, t, ht, hwt⟩
              · have e2 : ((1 + (q : Int)) == 2) = false := by simp; omega
                have e1 : ((1 + (q : Int)) == 1) = true := by simp; omega
                have e3 : ((1 + (q : Int)) == 3) = false := by simp; omega
                rw [hwt] at HTM
                have HBX := HBI
                clear hwt hmat hq0
                cases t
                · go_wp2_with fail
                  go_loopg [17, 18] Q.length (inRel w5 Q M[i].q)
                  case atStart => exact ⟨0, Nat.zero_le _, rfl, by simp, rfl, HBX.out⟩
                  case round =>
                    obtain ⟨j, hj, rfl, rfl, rfl, hb⟩ := hrel
                    have HBJ := Lib.hid hb
                    by_cases hjt : j < Q.length
                    · have j1 : (j : Int) < (Q.length : Int) := by omega
                      have j2 : IntKind.i64.wrap ((j : Int) + 1) = (j : Int) + 1 := IntWalk.i64_in _ (by omega)
                      have j3 : (0 : Int) ≤ (j : Int) := by omega
                      have HTK := Lib.hid (take_mem (r := M[i].q) hjt)
                      obtain ⟨b2, o2, he, d0, d1, d2, d3⟩ := BsAt.get (HBS.out.below hb) i hlt
                      cases he
                      obtain ⟨qb, qo, rfl, hqc⟩ := (HQS.out.below hb).at' (by omega)
                      have q1 := hqc j hjt
                      unfold str at q1
                      clear hqc hb d0 d2 d3
                      cases hd : decide (M[i].q ∈ Q.take j)
                      · have HD := Lib.hid hd
                        clear hd
                        go_wp2_with fail
                        go_quiet (fail)
                        go_wp2_with fail
                        go_roundg (Q.length - (j + 1))
                        case measure => omega
                        case rel =>
                          refine ⟨j + 1, by omega, rfl, ?_, rfl, Below.drewN HBJ.out _⟩
                          rw [in_step HTK.out HD.out]
                      · have HD := Lib.hid hd
                        clear hd q1 d1
                        go_wp2_with fail
                        go_quiet (fail)
                        go_wp2_with fail
                        go_roundg (Q.length - (j + 1))
                        case measure => omega
                        case rel =>
                          refine ⟨j + 1, by omega, rfl, ?_, rfl, Below.drewN HBJ.out _⟩
                          rw [in_stay HTK.out HD.out]
                    · obtain rfl : j = Q.length := by omega
                      have j1 : ¬ ((Q.length : Int) < (Q.length : Int)) := by omega
                      clear hb
                      generalize decide (M[i].q ∈ Q.take Q.length) = inq
                      go_wp2_with fail
                      go_roundg (M.length - (i + 1))
                      case measure => omega
                      case rel => exact ⟨i + 1, by omega, rfl, by simp, HBJ.out⟩
                · go_wp2_with fail
                  go_loopg [17, 18] Q.length (inRel w5 Q M[i].q)
                  case atStart => exact ⟨0, Nat.zero_le _, rfl, by simp, rfl, HBX.out⟩
                  case round =>
                    obtain ⟨j, hj, rfl, rfl, rfl, hb⟩ := hrel
                    have HBJ := Lib.hid hb
                    by_cases hjt : j < Q.length
                    · have j1 : (j : Int) < (Q.length : Int) := by omega
                      have j2 : IntKind.i64.wrap ((j : Int) + 1) = (j : Int) + 1 := IntWalk.i64_in _ (by omega)
                      have j3 : (0 : Int) ≤ (j : Int) := by omega
                      have HTK := Lib.hid (take_mem (r := M[i].q) hjt)
                      obtain ⟨b2, o2, he, d0, d1, d2, d3⟩ := BsAt.get (HBS.out.below hb) i hlt
                      cases he
                      obtain ⟨qb, qo, rfl, hqc⟩ := (HQS.out.below hb).at' (by omega)
                      have q1 := hqc j hjt
                      unfold str at q1
                      clear hqc hb d0 d2 d3
                      cases hd : decide (M[i].q ∈ Q.take j)
                      · have HD := Lib.hid hd
                        clear hd
                        go_wp2_with fail
                        go_quiet (fail)
                        go_wp2_with fail
                        go_roundg (Q.length - (j + 1))
                        case measure => omega
                        case rel =>
                          refine ⟨j + 1, by omega, rfl, ?_, rfl, Below.drewN HBJ.out _⟩
                          rw [in_step HTK.out HD.out]
                      · have HD := Lib.hid hd
                        clear hd q1 d1
                        go_wp2_with fail
                        go_quiet (fail)
                        go_wp2_with fail
                        go_roundg (Q.length - (j + 1))
                        case measure => omega
                        case rel =>
                          refine ⟨j + 1, by omega, rfl, ?_, rfl, Below.drewN HBJ.out _⟩
                          rw [in_stay HTK.out HD.out]
                    · obtain rfl : j = Q.length := by omega
                      have j1 : ¬ ((Q.length : Int) < (Q.length : Int)) := by omega
                      clear hb
                      rw [decide_eq_true (by rw [List.take_length]; exact HTM.out (by trivial) : M[i].q ∈ Q.take Q.length)]
                      go_wp2_with fail
                      go_roundg (M.length - (i + 1))
                      case measure => omega
                      case rel => exact ⟨i + 1, by omega, rfl, by simp, HBJ.out⟩
              · have e2 : ((1 + (q : Int)) == 2) = true := by simp; omega
                rw [hwt] at HTM
                have HBX := HBI
                clear hwt hmat hq0
                go_wp2_with fail
                go_loopg [17, 18] Q.length (inRel w5 Q M[i].q)
                case atStart => exact ⟨0, Nat.zero_le _, rfl, by simp, rfl, HBX.out⟩
                case round =>
                  obtain ⟨j, hj, rfl, rfl, rfl, hb⟩ := hrel
                  have HBJ := Lib.hid hb
                  by_cases hjt : j < Q.length
                  · have j1 : (j : Int) < (Q.length : Int) := by omega
                    have j2 : IntKind.i64.wrap ((j : Int) + 1) = (j : Int) + 1 := IntWalk.i64_in _ (by omega)
                    have j3 : (0 : Int) ≤ (j : Int) := by omega
                    have HTK := Lib.hid (take_mem (r := M[i].q) hjt)
                    obtain ⟨b2, o2, he, d0, d1, d2, d3⟩ := BsAt.get (HBS.out.below hb) i hlt
                    cases he
                    obtain ⟨qb, qo, rfl, hqc⟩ := (HQS.out.below hb).at' (by omega)
                    have q1 := hqc j hjt
                    unfold str at q1
                    clear hqc hb d0 d2 d3
                    cases hd : decide (M[i].q ∈ Q.take j)
                    · have HD := Lib.hid hd
                      clear hd
                      go_wp2_with fail
                      go_quiet (fail)
                      go_wp2_with fail
                      go_roundg (Q.length - (j + 1))
                      case measure => omega
                      case rel =>
                        refine ⟨j + 1, by omega, rfl, ?_, rfl, Below.drewN HBJ.out _⟩
                        rw [in_step HTK.out HD.out]
                    · have HD := Lib.hid hd
                      clear hd q1 d1
                      go_wp2_with fail
                      go_quiet (fail)
                      go_wp2_with fail
                      go_roundg (Q.length - (j + 1))
                      case measure => omega
                      case rel =>
                        refine ⟨j + 1, by omega, rfl, ?_, rfl, Below.drewN HBJ.out _⟩
                        rw [in_stay HTK.out HD.out]
                  · obtain rfl : j = Q.length := by omega
                    have j1 : ¬ ((Q.length : Int) < (Q.length : Int)) := by omega
                    clear hb
                    rw [decide_eq_true (by rw [List.take_length]; exact HTM.out (by trivial) : M[i].q ∈ Q.take Q.length)]
                    go_wp2_with fail
                    go_roundg (M.length - (i + 1))
                    case measure => omega
                    case rel => exact ⟨i + 1, by omega, rfl, by simp, HBJ.out⟩
              · have e2 : ((1 + (q : Int)) == 2) = false := by simp; omega
                have e1 : ((1 + (q : Int)) == 1) = false := by simp; omega
                have e3 : ((1 + (q : Int)) == 3) = true := by simp; omega
                rw [hwt] at HTM
                rw [ht] at hmat
                have HMAT := Lib.hid hmat
                clear hwt hmat hq0 ht
                cases t
                · go_wp2_with (go_at_call 11; refine (HMAT.out _).mono ?_; rintro e w6 ⟨rfl, hb6⟩; have HBX := Lib.hid (HBI.out.trans (hb6.mono HBI.out.size)); clear hb6)
                  go_loopg [17, 18] Q.length (inRel w5 Q M[i].q)
                  case atStart => exact ⟨0, Nat.zero_le _, rfl, by simp, rfl, HBX.out⟩
                  case round =>
                    obtain ⟨j, hj, rfl, rfl, rfl, hb⟩ := hrel
                    have HBJ := Lib.hid hb
                    by_cases hjt : j < Q.length
                    · have j1 : (j : Int) < (Q.length : Int) := by omega
                      have j2 : IntKind.i64.wrap ((j : Int) + 1) = (j : Int) + 1 := IntWalk.i64_in _ (by omega)
                      have j3 : (0 : Int) ≤ (j : Int) := by omega
                      have HTK := Lib.hid (take_mem (r := M[i].q) hjt)
                      obtain ⟨b2, o2, he, d0, d1, d2, d3⟩ := BsAt.get (HBS.out.below hb) i hlt
                      cases he
                      obtain ⟨qb, qo, rfl, hqc⟩ := (HQS.out.below hb).at' (by omega)
                      have q1 := hqc j hjt
                      unfold str at q1
                      clear hqc hb d0 d2 d3
                      cases hd : decide (M[i].q ∈ Q.take j)
                      · have HD := Lib.hid hd
                        clear hd
                        go_wp2_with fail
                        go_quiet (fail)
                        go_wp2_with fail
                        go_roundg (Q.length - (j + 1))
                        case measure => omega
                        case rel =>
                          refine ⟨j + 1, by omega, rfl, ?_, rfl, Below.drewN HBJ.out _⟩
                          rw [in_step HTK.out HD.out]
                      · have HD := Lib.hid hd
                        clear hd q1 d1
                        go_wp2_with fail
                        go_quiet (fail)
                        go_wp2_with fail
                        go_roundg (Q.length - (j + 1))
                        case measure => omega
                        case rel =>
                          refine ⟨j + 1, by omega, rfl, ?_, rfl, Below.drewN HBJ.out _⟩
                          rw [in_stay HTK.out HD.out]
                    · obtain rfl : j = Q.length := by omega
                      have j1 : ¬ ((Q.length : Int) < (Q.length : Int)) := by omega
                      clear hb
                      generalize decide (M[i].q ∈ Q.take Q.length) = inq
                      go_wp2_with fail
                      go_roundg (M.length - (i + 1))
                      case measure => omega
                      case rel => exact ⟨i + 1, by omega, rfl, by simp, HBJ.out⟩
                · go_wp2_with (go_at_call 11; refine (HMAT.out _).mono ?_; rintro e w6 ⟨rfl, hb6⟩; have HBX := Lib.hid (HBI.out.trans (hb6.mono HBI.out.size)); clear hb6)
                  go_loopg [17, 18] Q.length (inRel w5 Q M[i].q)
                  case atStart => exact ⟨0, Nat.zero_le _, rfl, by simp, rfl, HBX.out⟩
                  case round =>
                    obtain ⟨j, hj, rfl, rfl, rfl, hb⟩ := hrel
                    have HBJ := Lib.hid hb
                    by_cases hjt : j < Q.length
                    · have j1 : (j : Int) < (Q.length : Int) := by omega
                      have j2 : IntKind.i64.wrap ((j : Int) + 1) = (j : Int) + 1 := IntWalk.i64_in _ (by omega)
                      have j3 : (0 : Int) ≤ (j : Int) := by omega
                      have HTK := Lib.hid (take_mem (r := M[i].q) hjt)
                      obtain ⟨b2, o2, he, d0, d1, d2, d3⟩ := BsAt.get (HBS.out.below hb) i hlt
                      cases he
                      obtain ⟨qb, qo, rfl, hqc⟩ := (HQS.out.below hb).at' (by omega)
                      have q1 := hqc j hjt
                      unfold str at q1
                      clear hqc hb d0 d2 d3
                      cases hd : decide (M[i].q ∈ Q.take j)
                      · have HD := Lib.hid hd
                        clear hd
                        go_wp2_with fail
                        go_quiet (fail)
                        go_wp2_with fail
                        go_roundg (Q.length - (j + 1))
                        case measure => omega
                        case rel =>
                          refine ⟨j + 1, by omega, rfl, ?_, rfl, Below.drewN HBJ.out _⟩
                          rw [in_step HTK.out HD.out]
                      · have HD := Lib.hid hd
                        clear hd q1 d1
                        go_wp2_with fail
                        go_quiet (fail)
                        go_wp2_with fail
                        go_roundg (Q.length - (j + 1))
                        case measure => omega
                        case rel =>
                          refine ⟨j + 1, by omega, rfl, ?_, rfl, Below.drewN HBJ.out _⟩
                          rw [in_stay HTK.out HD.out]
                    · obtain rfl : j = Q.length := by omega
                      have j1 : ¬ ((Q.length : Int) < (Q.length : Int)) := by omega
                      clear hb
                      rw [decide_eq_true (by rw [List.take_length]; exact HTM.out (by trivial) : M[i].q ∈ Q.take Q.length)]
                      go_wp2_with fail
                      go_roundg (M.length - (i + 1))
                      case measure => omega
                      case rel => exact ⟨i + 1, by omega, rfl, by simp, HBJ.out⟩
            · obtain rfl : i = M.length := by omega
              have i1 : ¬ ((M.length : Int) < (M.length : Int)) := by omega
              clear HBW
              go_wp2_with fail
              go_loopg [19] Q.length (cntRel w5 Q.length)
              case atStart => exact ⟨0, Nat.zero_le _, rfl, rfl, HBI.out⟩
              case round =>
                obtain ⟨j, hj, rfl, rfl, hb⟩ := hrel
                have HBW := Lib.hid hb
                clear hb
                by_cases hjt : j < Q.length
                · have j1 : (j : Int) < (Q.length : Int) := by omega
                  have j2 : IntKind.i64.wrap ((j : Int) + 1) = (j : Int) + 1 := IntWalk.i64_in _ (by omega)
                  have j3 : (0 : Int) ≤ (j : Int) := by omega
                  have HSM := Lib.hid (show smB M (1 + (q : Int)) key Q[j] M.length = true from by
                    obtain ⟨b, hbm, h1, h2⟩ := (HMEM.out Q[j]).1 (List.getElem_mem hjt)
                    unfold smB
                    rw [List.take_length, List.any_eq_true]
                    exact ⟨b, hbm, by rw [h1, h2]; simp⟩)
                  go_wp2_with fail
                  go_loopg [20, 21] M.length (someRel w5 M (1 + (q : Int)) key Q[j])
                  case atStart => exact ⟨0, Nat.zero_le _, rfl, rfl, rfl, HBW.out⟩
                  case round =>
                    obtain ⟨i, hi, rfl, rfl, rfl, hb⟩ := hrel
                    have HBJ := Lib.hid hb
                    by_cases hlt : i < M.length
                    · have i1 : (i : Int) < (M.length : Int) := by omega
                      have i2 : IntKind.i64.wrap ((i : Int) + 1) = (i : Int) + 1 := IntWalk.i64_in _ (by omega)
                      have i3 : (0 : Int) ≤ (i : Int) := by omega
                      have hst := smB_succ M (1 + (q : Int)) key Q[j] i hlt
                      cases hsm : smB M (1 + (q : Int)) key Q[j] i
                      · rw [hsm, Bool.false_or] at hst
                        obtain ⟨b, o, rfl, c0, c1, c2, c3⟩ := BsAt.get (HBS.out.below hb) i hlt
                        obtain ⟨qb, qo, rfl, hqc⟩ := (HQS.out.below hb).at' (by omega)
                        have q1 := hqc j hjt
                        unfold str at q1
                        clear hqc hsm c0 c3
                        by_cases hqq : M[i].q = Q[j]
                        · have hqb : (M[i].q == Q[j]) = true := by simpa using hqq
                          rw [hqb, Bool.and_true] at hst
                          have hways : (q = 0 ∧ ∃ t, (M[i].key == key) = t ∧ wantB (1 + (q : Int)) M[i].key key = t) ∨ (q = 1 ∧ wantB (1 + (q : Int)) M[i].key key = true) ∨ (q = 2 ∧ ∃ t, matchB M[i].key key = t ∧ wantB (1 + (q : Int)) M[i].key key = t) := by
                            have : q = 0 ∨ q = 1 ∨ q = 2 := by omega
                            rcases this with h | h | h
                            · subst h; exact .inl ⟨rfl, _, rfl, rfl⟩
                            · subst h; exact .inr (.inl ⟨rfl, rfl⟩)
                            · subst h; exact .inr (.inr ⟨rfl, _, rfl, rfl⟩)
                          clear hqq
                          rcases hways with ⟨hq0, t, ht, hwt⟩ | ⟨hq0, hwt⟩ | ⟨hq0, t, ht, hwt⟩
                          · have e2 : ((1 + (q : Int)) == 2) = false := by simp; omega
                            have e1 : ((1 + (q : Int)) == 1) = true := by simp; omega
                            have e3 : ((1 + (q : Int)) == 3) = false := by simp; omega
                            rw [hwt] at hst
                            have HST := Lib.hid hst
                            clear hwt hq0 hst hb
                            cases t
                            · go_wp2_with fail
                              go_quiet (fail)
                              go_wp2_with fail
                              go_roundg (M.length - (i + 1))
                              case measure => omega
                              case rel => exact ⟨i + 1, by omega, rfl, by rw [HST.out], rfl, Below.drewN HBJ.out _⟩
                            · go_wp2_with fail
                              go_quiet (fail)
                              go_wp2_with fail
                              go_roundg (M.length - (i + 1))
                              case measure => omega
                              case rel => exact ⟨i + 1, by omega, rfl, by rw [HST.out], rfl, Below.drewN HBJ.out _⟩
                          · have e2 : ((1 + (q : Int)) == 2) = true := by simp; omega
                            rw [hwt] at hst
                            have HST := Lib.hid hst
                            clear hwt hq0 hst hb
                            go_wp2_with fail
                            go_quiet (fail)
                            go_wp2_with fail
                            go_roundg (M.length - (i + 1))
                            case measure => omega
                            case rel => exact ⟨i + 1, by omega, rfl, by rw [HST.out], rfl, Below.drewN HBJ.out _⟩
                          · have e2 : ((1 + (q : Int)) == 2) = false := by simp; omega
                            have e1 : ((1 + (q : Int)) == 1) = false := by simp; omega
                            have e3 : ((1 + (q : Int)) == 3) = true := by simp; omega
                            have hmat := match_any M[i].key key (HLK.out _ (List.getElem_mem hlt)) (by omega)
                            rw [ht] at hmat
                            have HMAT := Lib.hid hmat
                            rw [hwt] at hst
                            have HST := Lib.hid hst
                            have KH := Lib.hid (show ∀ wx, Below wr.heap.size wr wx → wx.cell? ⟨b, o + i * 4 + 1, none⟩ = some (.string ⟨M[i].q.toArray⟩) ∧ wx.cell? ⟨b, o + i * 4 + 2, none⟩ = some (.string ⟨M[i].key.toArray⟩) ∧ wx.cell? ⟨qb, qo + j, none⟩ = some (.string ⟨Q[j].toArray⟩) ∧ Below wr.heap.size wr wx from fun wx hx => ⟨(hx.cell (lt_of_cell c1)).trans c1, (hx.cell (lt_of_cell c2)).trans c2, (hx.cell (lt_of_cell q1)).trans q1, hx⟩)
                            clear hwt hq0 hst hb ht hmat
                            go_wp2_with fail
                            refine wp_region_noPanic ?_
                            refine wp_region_held_drew (S := (fun wx => wx.cell? ⟨b, o + i * 4 + 1, none⟩ = some (.string ⟨M[i].q.toArray⟩) ∧ wx.cell? ⟨b, o + i * 4 + 2, none⟩ = some (.string ⟨M[i].key.toArray⟩) ∧ wx.cell? ⟨qb, qo + j, none⟩ = some (.string ⟨Q[j].toArray⟩) ∧ Below wr.heap.size wr wx)) (by kernel_rfl) ?_ (fun hHeld => ?_)
                            · exact KH.out _ (Below.refl _ _).drew
                            refine wpAnyH_take (i := 0) (oi := ⟨some 162, _, _, _, _, _⟩) (v := ?_) rfl (by kernel_rfl) (by kernel_rfl) (by kernel_rfl) (fun _ _ _ h => h) (Or.inl ⟨by rfl, ?_⟩) (by assumption) ?_
                            rotate_left
                            · intro w' hSw
                              (try dsimp only at hSw)
                              go_simp
                              try with_reducible rfl
                            simp only [Act.put, List.setIfInBounds_toArray, List.set_cons_zero, List.set_cons_succ]
                            refine wpAnyH_take (i := 1) (oi := ⟨some 163, _, _, _, _, _⟩) (v := ?_) rfl (by kernel_rfl) (by kernel_rfl) (by kernel_rfl) (fun _ _ _ h => h) (Or.inl ⟨by rfl, ?_⟩) (by assumption) ?_
                            rotate_left
                            · intro w' hSw
                              (try dsimp only at hSw)
                              go_simp
                              try with_reducible rfl
                            simp only [Act.put, List.setIfInBounds_toArray, List.set_cons_zero, List.set_cons_succ]
                            refine wpAnyH_take (i := 2) (oi := ⟨some 164, _, _, _, _, _⟩) (v := ?_) rfl (by kernel_rfl) (by kernel_rfl) (by kernel_rfl) (fun _ _ _ h => h) (Or.inl ⟨by rfl, ?_⟩) (by assumption) ?_
                            rotate_left
                            · intro w' hSw
                              (try dsimp only at hSw)
                              go_simp
                              try with_reducible rfl
                            simp only [Act.put, List.setIfInBounds_toArray, List.set_cons_zero, List.set_cons_succ]
                            refine wpAnyH_take (i := 3) (oi := ⟨some 165, _, _, _, _, _⟩) (v := ?_) rfl (by kernel_rfl) (by kernel_rfl) (by kernel_rfl) (fun _ _ _ h => h) (Or.inl ⟨by rfl, ?_⟩) (by assumption) ?_
                            rotate_left
                            · intro w' hSw
                              (try dsimp only at hSw)
                              go_simp
                              try with_reducible rfl
                            simp only [Act.put, List.setIfInBounds_toArray, List.set_cons_zero, List.set_cons_succ]
                            refine wpAnyH_take (i := 4) (oi := ⟨some 166, _, _, _, _, _⟩) (v := ?_) rfl (by kernel_rfl) (by kernel_rfl) (by kernel_rfl) (fun _ _ _ h => h) (Or.inl ⟨by rfl, ?_⟩) (by assumption) ?_
                            rotate_left
                            · intro w' hSw
                              (try dsimp only at hSw)
                              go_simp
                              try with_reducible rfl
                            simp only [Act.put, List.setIfInBounds_toArray, List.set_cons_zero, List.set_cons_succ]
                            refine wpAnyH_take (i := 5) (oi := ⟨some 167, _, _, _, _, _⟩) (v := ?_) rfl (by kernel_rfl) (by kernel_rfl) (by kernel_rfl) (fun _ _ _ h => h) (Or.inl ⟨by rfl, ?_⟩) (by assumption) ?_
                            rotate_left
                            · intro w' hSw
                              (try dsimp only at hSw)
                              go_simp
                              try with_reducible rfl
                            simp only [Act.put, List.setIfInBounds_toArray, List.set_cons_zero, List.set_cons_succ]
                            refine wpAnyH_take (i := 6) (oi := ⟨some 168, _, _, _, _, _⟩) (v := ?_) rfl (by kernel_rfl) (by kernel_rfl) (by kernel_rfl) (fun _ _ _ h => h) (Or.inl ⟨by rfl, ?_⟩) (by assumption) ?_
                            rotate_left
                            · intro w' hSw
                              (try dsimp only at hSw)
                              go_simp
                              try with_reducible rfl
                            simp only [Act.put, List.setIfInBounds_toArray, List.set_cons_zero, List.set_cons_succ]
                            refine wpAnyH_take (i := 7) (oi := ⟨some 169, _, _, _, _, _⟩) (v := ?_) rfl (by kernel_rfl) (by kernel_rfl) (by kernel_rfl) (fun _ _ _ h => h) (Or.inl ⟨by rfl, ?_⟩) (by assumption) ?_
                            rotate_left
                            · intro w' hSw
                              (try dsimp only at hSw)
                              go_simp
                              try with_reducible rfl
                            simp only [Act.put, List.setIfInBounds_toArray, List.set_cons_zero, List.set_cons_succ]
                            refine wpAnyH_take (i := 8) (oi := ⟨some 170, _, _, _, _, _⟩) (v := ?_) rfl (by kernel_rfl) (by kernel_rfl) (by kernel_rfl) (fun _ _ _ h => h) (Or.inl ⟨by rfl, ?_⟩) (by assumption) ?_
                            rotate_left
                            · intro w' hSw
                              (try dsimp only at hSw)
                              go_simp
                              try with_reducible rfl
                            simp only [Act.put, List.setIfInBounds_toArray, List.set_cons_zero, List.set_cons_succ]
                            refine wpAnyH_take (i := 9) (oi := ⟨some 171, _, _, _, _, _⟩) (v := ?_) rfl (by kernel_rfl) (by kernel_rfl) (by kernel_rfl) (fun _ _ _ h => h) (Or.inl ⟨by rfl, ?_⟩) (by assumption) ?_
                            rotate_left
                            · intro w' hSw
                              (try dsimp only at hSw)
                              go_simp
                              try with_reducible rfl
                            simp only [Act.put, List.setIfInBounds_toArray, List.set_cons_zero, List.set_cons_succ]
                            refine wpAnyH_take (i := 10) (oi := ⟨some 172, _, _, _, _, _⟩) (v := ?_) rfl (by kernel_rfl) (by kernel_rfl) (by kernel_rfl) (fun _ _ _ h => h) (Or.inl ⟨by rfl, ?_⟩) (by assumption) ?_
                            rotate_left
                            · intro w' hSw
                              (try dsimp only at hSw)
                              go_simp
                              try with_reducible rfl
                            simp only [Act.put, List.setIfInBounds_toArray, List.set_cons_zero, List.set_cons_succ]
                            refine wpAnyH_take (i := 11) (oi := ⟨some 173, _, _, _, _, _⟩) (v := ?_) rfl (by kernel_rfl) (by kernel_rfl) (by kernel_rfl) (fun _ _ _ h => h) (Or.inl ⟨by rfl, ?_⟩) (by assumption) ?_
                            rotate_left
                            · intro w' hSw
                              (try dsimp only at hSw)
                              go_simp
                              try with_reducible rfl
                            simp only [Act.put, List.setIfInBounds_toArray, List.set_cons_zero, List.set_cons_succ]
                            refine wpAnyH_take (i := 12) (oi := ⟨some 174, _, _, _, _, _⟩) (v := ?_) rfl (by kernel_rfl) (by kernel_rfl) (by kernel_rfl) (fun _ _ _ h => h) (Or.inl ⟨by rfl, ?_⟩) (by assumption) ?_
                            rotate_left
                            · intro w' hSw
                              (try dsimp only at hSw)
                              go_simp
                              try with_reducible rfl
                            simp only [Act.put, List.setIfInBounds_toArray, List.set_cons_zero, List.set_cons_succ]
                            refine wpAnyH_take (i := 13) (oi := ⟨some 175, _, _, _, _, _⟩) (v := ?_) rfl (by kernel_rfl) (by kernel_rfl) (by kernel_rfl) (fun _ _ _ h => h) (Or.inl ⟨by rfl, ?_⟩) (by assumption) ?_
                            rotate_left
                            · intro w' hSw
                              (try dsimp only at hSw)
                              go_simp
                              try with_reducible rfl
                            simp only [Act.put, List.setIfInBounds_toArray, List.set_cons_zero, List.set_cons_succ]
                            refine wpAnyH_take (i := 14) (oi := ⟨some 176, _, _, _, _, _⟩) (v := ?_) rfl (by kernel_rfl) (by kernel_rfl) (by kernel_rfl) (fun _ _ _ h => h) (Or.inl ⟨by rfl, ?_⟩) (by assumption) ?_
                            rotate_left
                            · intro w' hSw
                              (try dsimp only at hSw)
                              go_simp
                              try with_reducible rfl
                            simp only [Act.put, List.setIfInBounds_toArray, List.set_cons_zero, List.set_cons_succ]
                            refine wpAnyH_take (i := 15) (oi := ⟨some 177, _, _, _, _, _⟩) (v := ?_) rfl (by kernel_rfl) (by kernel_rfl) (by kernel_rfl) (fun _ _ _ h => h) (Or.inl ⟨by rfl, ?_⟩) (by assumption) ?_
                            rotate_left
                            · intro w' hSw
                              (try dsimp only at hSw)
                              go_simp
                              try with_reducible rfl
                            simp only [Act.put, List.setIfInBounds_toArray, List.set_cons_zero, List.set_cons_succ]
                            refine wpAnyH_take (i := 16) (oi := ⟨some 178, _, _, _, _, _⟩) (v := ?_) rfl (by kernel_rfl) (by kernel_rfl) (by kernel_rfl) (fun _ _ _ h => h) (Or.inl ⟨by rfl, ?_⟩) (by assumption) ?_
                            rotate_left
                            · intro w' hSw
                              (try dsimp only at hSw)
                              go_simp
                              try with_reducible rfl
                            simp only [Act.put, List.setIfInBounds_toArray, List.set_cons_zero, List.set_cons_succ]
                            refine wpAnyH_take (i := 17) (oi := ⟨some 179, _, _, _, _, _⟩) (v := ?_) rfl (by kernel_rfl) (by kernel_rfl) (by kernel_rfl) (fun _ _ _ h => h) (Or.inl ⟨by rfl, ?_⟩) (by assumption) ?_
                            rotate_left
                            · intro w' hSw
                              (try dsimp only at hSw)
                              go_simp
                              try with_reducible rfl
                            simp only [Act.put, List.setIfInBounds_toArray, List.set_cons_zero, List.set_cons_succ]
                            refine wpAnyH_take (i := 18) (oi := ⟨some 180, _, _, _, _, _⟩) (v := ?_) rfl (by kernel_rfl) (by kernel_rfl) (by kernel_rfl) (fun _ _ _ h => h) (Or.inl ⟨by rfl, ?_⟩) (by assumption) ?_
                            rotate_left
                            · intro w' hSw
                              (try dsimp only at hSw)
                              go_simp
                              try with_reducible rfl
                            simp only [Act.put, List.setIfInBounds_toArray, List.set_cons_zero, List.set_cons_succ]
                            refine wpAnyH_take (i := 19) (oi := ⟨some 181, _, _, _, _, _⟩) (v := undef) rfl (by kernel_rfl) (by kernel_rfl) (by kernel_rfl) (fun _ _ _ h => h) (Or.inr ⟨by rfl, rfl⟩) (by assumption) ?_
                            simp only [Act.put, List.setIfInBounds_toArray, List.set_cons_zero, List.set_cons_succ]
                            refine wpAnyH_take (i := 20) (oi := ⟨some 182, _, _, _, _, _⟩) (v := undef) rfl (by kernel_rfl) (by kernel_rfl) (by kernel_rfl) (fun _ _ _ h => h) (Or.inr ⟨by rfl, rfl⟩) (by assumption) ?_
                            simp only [Act.put, List.setIfInBounds_toArray, List.set_cons_zero, List.set_cons_succ]
                            refine wpAnyH_take (i := 21) (oi := ⟨some 183, _, _, _, _, _⟩) (v := undef) rfl (by kernel_rfl) (by kernel_rfl) (by kernel_rfl) (fun _ _ _ h => h) (Or.inr ⟨by rfl, rfl⟩) (by assumption) ?_
                            simp only [Act.put, List.setIfInBounds_toArray, List.set_cons_zero, List.set_cons_succ]
                            refine wpAnyH_take (i := 22) (oi := ⟨some 184, _, _, _, _, _⟩) (v := undef) rfl (by kernel_rfl) (by kernel_rfl) (by kernel_rfl) (fun _ _ _ h => h) (Or.inr ⟨by rfl, rfl⟩) (by assumption) ?_
                            simp only [Act.put, List.setIfInBounds_toArray, List.set_cons_zero, List.set_cons_succ]
                            refine wpAnyH_take (i := 23) (oi := ⟨some 185, _, _, _, _, _⟩) (v := undef) rfl (by kernel_rfl) (by kernel_rfl) (by kernel_rfl) (fun _ _ _ h => h) (Or.inr ⟨by rfl, rfl⟩) (by assumption) ?_
                            simp only [Act.put, List.setIfInBounds_toArray, List.set_cons_zero, List.set_cons_succ]
                            refine wpAnyH_take (i := 24) (oi := ⟨some 186, _, _, _, _, _⟩) (v := undef) rfl (by kernel_rfl) (by kernel_rfl) (by kernel_rfl) (fun _ _ _ h => h) (Or.inr ⟨by rfl, rfl⟩) (by assumption) ?_
                            simp only [Act.put, List.setIfInBounds_toArray, List.set_cons_zero, List.set_cons_succ]
                            refine wpAnyH_take (i := 25) (oi := ⟨some 187, _, _, _, _, _⟩) (v := undef) rfl (by kernel_rfl) (by kernel_rfl) (by kernel_rfl) (fun _ _ _ h => h) (Or.inr ⟨by rfl, rfl⟩) (by assumption) ?_
                            simp only [Act.put, List.setIfInBounds_toArray, List.set_cons_zero, List.set_cons_succ]
                            refine wpAnyH_take (i := 26) (oi := ⟨some 188, _, _, _, _, _⟩) (v := ?_) rfl (by kernel_rfl) (by kernel_rfl) (by kernel_rfl) (fun _ _ _ h => h) (Or.inl ⟨by rfl, ?_⟩) (by assumption) ?_
                            rotate_left
                            · intro w' hSw
                              (try dsimp only at hSw)
                              go_simp
                              try with_reducible rfl
                            simp only [Act.put, List.setIfInBounds_toArray, List.set_cons_zero, List.set_cons_succ]
                            refine wpAnyH_take (i := 27) (oi := ⟨some 189, _, _, _, _, _⟩) (v := ?_) rfl (by kernel_rfl) (by kernel_rfl) (by kernel_rfl) (fun _ _ _ h => h) (Or.inl ⟨by rfl, ?_⟩) (by assumption) ?_
                            rotate_left
                            · intro w' hSw
                              (try dsimp only at hSw)
                              go_simp
                              try with_reducible rfl
                            simp only [Act.put, List.setIfInBounds_toArray, List.set_cons_zero, List.set_cons_succ]
                            refine wpAnyH_take (i := 28) (oi := ⟨some 190, _, _, _, _, _⟩) (v := ?_) rfl (by kernel_rfl) (by kernel_rfl) (by kernel_rfl) (fun _ _ _ h => h) (Or.inl ⟨by rfl, ?_⟩) (by assumption) ?_
                            rotate_left
                            · intro w' hSw
                              (try dsimp only at hSw)
                              go_simp
                              try with_reducible rfl
                            simp only [Act.put, List.setIfInBounds_toArray, List.set_cons_zero, List.set_cons_succ]
                            refine wpAnyH_take (i := 29) (oi := ⟨some 191, _, _, _, _, _⟩) (v := ?_) rfl (by kernel_rfl) (by kernel_rfl) (by kernel_rfl) (fun _ _ _ h => h) (Or.inl ⟨by rfl, ?_⟩) (by assumption) ?_
                            rotate_left
                            · intro w' hSw
                              (try dsimp only at hSw)
                              go_simp
                              try with_reducible rfl
                            simp only [Act.put, List.setIfInBounds_toArray, List.set_cons_zero, List.set_cons_succ]
                            refine wpAnyH_take (i := 30) (oi := ⟨some 192, _, _, _, _, _⟩) (v := ?_) rfl (by kernel_rfl) (by kernel_rfl) (by kernel_rfl) (fun _ _ _ h => h) (Or.inl ⟨by rfl, ?_⟩) (by assumption) ?_
                            rotate_left
                            · intro w' hSw
                              (try dsimp only at hSw)
                              go_simp
                              try with_reducible rfl
                            simp only [Act.put, List.setIfInBounds_toArray, List.set_cons_zero, List.set_cons_succ]
                            refine wpAnyH_take (i := 31) (oi := ⟨some 193, _, _, _, _, _⟩) (v := ?_) rfl (by kernel_rfl) (by kernel_rfl) (by kernel_rfl) (fun _ _ _ h => h) (Or.inl ⟨by rfl, ?_⟩) (by assumption) ?_
                            rotate_left
                            · intro w' hSw
                              (try dsimp only at hSw)
                              go_simp
                              try with_reducible rfl
                            simp only [Act.put, List.setIfInBounds_toArray, List.set_cons_zero, List.set_cons_succ]
                            refine wpAnyH_take (i := 32) (oi := ⟨some 194, _, _, _, _, _⟩) (v := ?_) rfl (by kernel_rfl) (by kernel_rfl) (by kernel_rfl) (fun _ _ _ h => h) (Or.inl ⟨by rfl, ?_⟩) (by assumption) ?_
                            rotate_left
                            · intro w' hSw
                              (try dsimp only at hSw)
                              go_simp
                              try with_reducible rfl
                            simp only [Act.put, List.setIfInBounds_toArray, List.set_cons_zero, List.set_cons_succ]
                            refine wpAnyH_take (i := 33) (oi := ⟨some 195, _, _, _, _, _⟩) (v := ?_) rfl (by kernel_rfl) (by kernel_rfl) (by kernel_rfl) (fun _ _ _ h => h) (Or.inl ⟨by rfl, ?_⟩) (by assumption) ?_
                            rotate_left
                            · intro w' hSw
                              (try dsimp only at hSw)
                              go_simp
                              try with_reducible rfl
                            simp only [Act.put, List.setIfInBounds_toArray, List.set_cons_zero, List.set_cons_succ]
                            refine wpAnyH_take (i := 34) (oi := ⟨some 196, _, _, _, _, _⟩) (v := ?_) rfl (by kernel_rfl) (by kernel_rfl) (by kernel_rfl) (fun _ _ _ h => h) (Or.inl ⟨by rfl, ?_⟩) (by assumption) ?_
                            rotate_left
                            · intro w' hSw
                              (try dsimp only at hSw)
                              go_simp
                              try with_reducible rfl
                            simp only [Act.put, List.setIfInBounds_toArray, List.set_cons_zero, List.set_cons_succ]
                            refine wpAnyH_take (i := 35) (oi := ⟨some 197, _, _, _, _, _⟩) (v := ?_) rfl (by kernel_rfl) (by kernel_rfl) (by kernel_rfl) (fun _ _ _ h => h) (Or.inl ⟨by rfl, ?_⟩) (by assumption) ?_
                            rotate_left
                            · intro w' hSw
                              (try dsimp only at hSw)
                              go_simp
                              try with_reducible rfl
                            simp only [Act.put, List.setIfInBounds_toArray, List.set_cons_zero, List.set_cons_succ]
                            refine wpAnyH_take (i := 36) (oi := ⟨some 198, _, _, _, _, _⟩) (v := ?_) rfl (by kernel_rfl) (by kernel_rfl) (by kernel_rfl) (fun _ _ _ h => h) (Or.inl ⟨by rfl, ?_⟩) (by assumption) ?_
                            rotate_left
                            · intro w' hSw
                              (try dsimp only at hSw)
                              go_simp
                              try with_reducible rfl
                            simp only [Act.put, List.setIfInBounds_toArray, List.set_cons_zero, List.set_cons_succ]
                            refine wpAnyH_take (i := 37) (oi := ⟨some 199, _, _, _, _, _⟩) (v := ?_) rfl (by kernel_rfl) (by kernel_rfl) (by kernel_rfl) (fun _ _ _ h => h) (Or.inl ⟨by rfl, ?_⟩) (by assumption) ?_
                            rotate_left
                            · intro w' hSw
                              (try dsimp only at hSw)
                              go_simp
                              try with_reducible rfl
                            simp only [Act.put, List.setIfInBounds_toArray, List.set_cons_zero, List.set_cons_succ]
                            refine wpAnyH_ready (rs := [38]) (by kernel_rfl) (by simp) ?_
                            refine AllReadyH.cons (o := ⟨some 200, _, _, _, _, _⟩) rfl (fun K hK => ?_) AllReadyH.nil
                            go_simp
                            go_at_call 11
                            have hbx := hHeld.2.2.2
                            refine (HMAT.out _).mono ?_
                            rintro e w6 ⟨rfl, hb6⟩
                            have hbz := hbx.trans (hb6.mono hbx.size)
                            clear hb6 hbx hHeld
                            go_wp2_with fail
                            refine hK.out _ _ ?_ (fun hHeld => ?_)
                            · exact KH.out _ hbz
                            clear hK K
                            try simp only [Act.put, List.setIfInBounds_toArray, List.set_cons_zero, List.set_cons_succ]
                            refine wpAnyH_take (i := 39) (oi := ⟨some 201, _, _, _, _, _⟩) (v := ?_) rfl (by kernel_rfl) (by kernel_rfl) (by kernel_rfl) (fun _ _ _ h => h) (Or.inl ⟨by rfl, ?_⟩) (by assumption) ?_
                            rotate_left
                            · intro w' hSw
                              (try dsimp only at hSw)
                              go_simp
                              try with_reducible rfl
                            simp only [Act.put, List.setIfInBounds_toArray, List.set_cons_zero, List.set_cons_succ]
                            refine wpAnyH_take (i := 40) (oi := ⟨some 202, _, _, _, _, _⟩) (v := ?_) rfl (by kernel_rfl) (by kernel_rfl) (by kernel_rfl) (fun _ _ _ h => h) (Or.inl ⟨by rfl, ?_⟩) (by assumption) ?_
                            rotate_left
                            · intro w' hSw
                              (try dsimp only at hSw)
                              go_simp
                              try with_reducible rfl
                            simp only [Act.put, List.setIfInBounds_toArray, List.set_cons_zero, List.set_cons_succ]
                            refine wpAnyH_take (i := 41) (oi := ⟨some 203, _, _, _, _, _⟩) (v := ?_) rfl (by kernel_rfl) (by kernel_rfl) (by kernel_rfl) (fun _ _ _ h => h) (Or.inl ⟨by rfl, ?_⟩) (by assumption) ?_
                            rotate_left
                            · intro w' hSw
                              (try dsimp only at hSw)
                              go_simp
                              try with_reducible rfl
                            simp only [Act.put, List.setIfInBounds_toArray, List.set_cons_zero, List.set_cons_succ]
                            refine wpAnyH_take (i := 42) (oi := ⟨some 204, _, _, _, _, _⟩) (v := ?_) rfl (by kernel_rfl) (by kernel_rfl) (by kernel_rfl) (fun _ _ _ h => h) (Or.inl ⟨by rfl, ?_⟩) (by assumption) ?_
                            rotate_left
                            · intro w' hSw
                              (try dsimp only at hSw)
                              go_simp
                              try with_reducible rfl
                            simp only [Act.put, List.setIfInBounds_toArray, List.set_cons_zero, List.set_cons_succ]
                            refine wpAnyH_take (i := 43) (oi := ⟨some 20, _, _, _, _, _⟩) (v := ?_) rfl (by kernel_rfl) (by kernel_rfl) (by kernel_rfl) (fun _ _ _ h => h) (Or.inl ⟨by rfl, ?_⟩) (by assumption) ?_
                            rotate_left
                            · intro w' hSw
                              (try dsimp only at hSw)
                              go_simp
                              try with_reducible rfl
                            simp only [Act.put, List.setIfInBounds_toArray, List.set_cons_zero, List.set_cons_succ]
                            refine wpAnyH_done (by kernel_rfl) ?_ _
                            refine NoPanic.normal ?_
                            have HBZ := Lib.hid (HBJ.out.trans (hbz.mono HBJ.out.size))
                            clear hbz hHeld
                            go_wp2_with fail
                            go_roundg (M.length - (i + 1))
                            case measure => omega
                            case rel => exact ⟨i + 1, by omega, rfl, by rw [HST.out], rfl, HBZ.out⟩
                        · have hqb : (M[i].q == Q[j]) = false := by simpa using hqq
                          rw [hqb, Bool.and_false] at hst
                          have HST := Lib.hid hst
                          clear hst hb hqq c2
                          go_wp2_with fail
                          go_quiet (fail)
                          go_wp2_with fail
                          go_roundg (M.length - (i + 1))
                          case measure => omega
                          case rel => exact ⟨i + 1, by omega, rfl, by rw [HST.out], rfl, Below.drewN HBJ.out _⟩
                      · rw [hsm, Bool.true_or] at hst
                        have HST := Lib.hid hst
                        clear hst hb hsm
                        go_wp2_with fail
                        go_quiet (fail)
                        go_wp2_with fail
                        go_roundg (M.length - (i + 1))
                        case measure => omega
                        case rel => exact ⟨i + 1, by omega, rfl, by rw [HST.out], rfl, Below.drewN HBJ.out _⟩
                    · obtain rfl : i = M.length := by omega
                      have i1 : ¬ ((M.length : Int) < (M.length : Int)) := by omega
                      rw [HSM.out]
                      clear hb
                      go_wp2_with fail
                      go_roundg (Q.length - (j + 1))
                      case measure => omega
                      case rel => exact ⟨j + 1, by omega, rfl, by simp, HBJ.out⟩
                · obtain rfl : j = Q.length := by omega
                  have j1 : ¬ ((Q.length : Int) < (Q.length : Int)) := by omega
                  go_wp2_with (go_at_call 9; refine (HT.out _).mono ?_; rintro e w7 ⟨rfl, hb7⟩; have HB7 := Lib.hid (HB6.out.trans ((HBW.out.trans (hb7.mono HBW.out.size)).mono HB6.out.size)); clear hb7)
                  go_ret
                  exact ⟨rfl, HB7.out⟩

end Go.Proofs.YtlghphmehlmehaaDoor.Rt
