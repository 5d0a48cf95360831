/-
  Law 13's told, walked (printed by tools/gen_btold.py).
-/
import Derived.Test.YthohjcfpobeplaaBtDo
import Derived.Test.YthohjcfpobeplaaBtTx
import Derived.Test.YthohjcfpobeplaaShGetG
import Derived.Test.YthohjcfpobeplaaShTold
import Derived.Deep.CutRange
namespace Go.Proofs.Ythohjcfpobeplaa.Bt
open Go.RowKit Rg Sh Go.Sort
set_option linter.unusedVariables false
set_option linter.unusedSimpArgs false

def uM : Mg := ⟨0, 1, [107], [], false⟩
def uN : Mg := ⟨0, 2, [107], [], false⟩
def uA : Sd := ⟨false, 1, [uM], [], [⟨0, [107], 1⟩]⟩
def uB : Sd := ⟨false, 2, [], [⟨1, uM⟩], [⟨0, [107], 1⟩]⟩
def uC : Sd := ⟨false, 2, [uN], [], [⟨0, [107], 2⟩]⟩
def uH : Hd := ⟨1, uM⟩
def uT1 : Tx := ⟨0, 1, [107], [⟨0, 5, [107], [120], false⟩], []⟩
def uT2 : Tx := ⟨0, 1, [107], [⟨0, 5, [107], [120], false⟩], [3]⟩
theorem u_do1 : doS sd1 [uM] [] = uA ∧ doC sd1 [uM] [] = 0 := by decide +kernel
theorem u_get : getS uA = uB ∧ getH uA = uH ∧ getC uA = 0 := by decide +kernel
theorem u_do2 : doS uB [uN] [1] = uC ∧ doC uB [uN] [1] = 0 := by decide +kernel
theorem u_do3 : doS uB [uN] [1, 1] = uB ∧ doC uB [uN] [1, 1] = 3 := by decide +kernel
theorem u_do4 : doS sd1 [] [] = sd1 ∧ doC sd1 [] [] = 1 := by decide +kernel
theorem u_p1 : pubT (tx0 0) 1 [107] 5 [120] = uT1 ∧ pubC (tx0 0) 1 [107] 5 [120] = 0 := by decide +kernel
theorem u_p2 : pubT uT1 1 [108] 6 [120] = uT1 ∧ pubC uT1 1 [108] 6 [120] = 540 := by decide +kernel
theorem u_a : ackT uT1 1 [107] 3 = uT2 ∧ ackC uT1 1 [107] 3 = 0 := by decide +kernel
theorem u_t : takeQ uT2 = 1 ∧ uT2.put.length = 1 ∧ uT2.tags.length = 1 ∧ uC.rd.length = 1 ∧ uC.hd.length = 0 ∧ (tx0 uT2.pub).len = 0 := by decide +kernel
theorem ins_of {w : World} {g : Nat} {l : List Int} {T : TypeId} (h : w.heap[g]? = some (.cells (l.map fun x => Value.int .i64 x).toArray T (0, 0))) (hl : l.length ≤ 1000) : InsAt w (some ⟨g, 0, none⟩) l.length l := by
  refine ⟨Nat.le_refl _, by unfold maxLen; omega, fun _ => ⟨g, 0, rfl, fun i hi r v hv => ?_⟩⟩
  rw [cell_of_row w _ _ _ _ _ h]
  unfold inC at hv
  match r, hv with
  | 0, hv =>
    simp only [List.getElem?_cons_zero, Option.some.injEq] at hv
    subst hv
    simp [hi]
  | n + 1, hv => simp at hv
theorem up_al {W Wc w7 : World} (h1 : Below W.heap.size W Wc) (h7 : Below Wc.heap.size Wc w7) (ob : Obj) : Below W.heap.size W (w7.alloc ob) :=
  low_al (h1.trans (h7.mono h1.size)) (Nat.le_refl _) ob
/-- what stands now: boxes and rows. -/
structure Bm (w : World) (g : Nat) (m : Mg) : Prop where
  bx : w.heap[g]? = some (.cells #[.int .i64 m.pub, .int .i64 m.seq, .string ⟨m.key.toArray⟩, .string ⟨m.body.toArray⟩, .bool m.again] 35 (0, 0))
theorem Bm.below {w w' : World} {g : Nat} {m : Mg} (h : Bm w g m) (hb : Below w.heap.size w w') : Bm w' g m := ⟨box_bl h.bx hb⟩
set_option maxRecDepth 100000 in
set_option maxHeartbeats 8000000 in
theorem told_any (w : World) : Calls Try.prog 47 #[] w fun e w' => e = .returned (.bool true) ∧ Below w.heap.size w w' := by
  have HNEW := Lib.hid (new_any w)
  go_enter Try.func47, Try.ntmps47
  go_upto_region 3 with (go_at_call 38; refine HNEW.out.mono ?_; rintro e w1 ⟨rfl, hb1⟩; have HB := Lib.hid hb1; clear hb1)
  obtain ⟨p1, p2, p3, p4⟩ := two_box (w := w1) (.cells #[.bool false, .int .i64 1, .slice none 0 0, .slice none 0 0, .slice none 0 0] 26) (.cells #[.int .i64 0, .int .i64 1, .string ⟨#[107]⟩, .string ⟨#[]⟩, .bool false] 35)
  have Hs := Lib.hid (show Bx ((w1.alloc (.cells #[.bool false, .int .i64 1, .slice none 0 0, .slice none 0 0, .slice none 0 0] 26)).alloc (.cells #[.int .i64 0, .int .i64 1, .string ⟨#[107]⟩, .string ⟨#[]⟩, .bool false] 35)) w1.heap.size none 0 none 0 none 0 sd1 from ⟨p1, sd_nil _⟩)
  have Hm := Lib.hid (show Bm ((w1.alloc (.cells #[.bool false, .int .i64 1, .slice none 0 0, .slice none 0 0, .slice none 0 0] 26)).alloc (.cells #[.int .i64 0, .int .i64 1, .string ⟨#[107]⟩, .string ⟨#[]⟩, .bool false] 35)) (w1.heap.size + 1) uM from ⟨p2⟩)
  have HC := Lib.hid (HB.out.trans (p3.mono HB.out.size))
  clear p1 p2 p3 p4 HB HNEW
  have hg01 : w1.heap.size ≠ w1.heap.size + 1 := by omega
  generalize (w1.alloc (.cells #[.bool false, .int .i64 1, .slice none 0 0, .slice none 0 0, .slice none 0 0] 26)).alloc (.cells #[.int .i64 0, .int .i64 1, .string ⟨#[107]⟩, .string ⟨#[]⟩, .bool false] 35) = W at *
  generalize w1.heap.size + 1 = gm at *
  generalize w1.heap.size = gs at *
  obtain ⟨⟨x0, x1, x2, x3, x4⟩, -⟩ := box5 Hs.out.bx
  obtain ⟨⟨z0, z1, z2, z3, z4⟩, -⟩ := box5 Hm.out.bx
  have hup : Below W.heap.size W (W.alloc (.cells #[.int .i64 uM.pub, .int .i64 uM.seq, .string ⟨uM.key.toArray⟩, .string ⟨uM.body.toArray⟩, .bool uM.again] 35)) := (low_al (Below.refl _ _) (Nat.le_refl _) (.cells #[.int .i64 uM.pub, .int .i64 uM.seq, .string ⟨uM.key.toArray⟩, .string ⟨uM.body.toArray⟩, .bool uM.again] 35))
  have hh := bdo_any sd1 none 0 none 0 none 0 (some ⟨W.heap.size, 0, none⟩) 1 [uM] (by decide) none 0 [] (W.alloc (.cells #[.int .i64 uM.pub, .int .i64 uM.seq, .string ⟨uM.key.toArray⟩, .string ⟨uM.body.toArray⟩, .bool uM.again] 35)) (Hs.out.sd.below _ _ _ _ _ _ hup) (mgs_one (m := uM) (heap_alloc_new W _)) (fun e => by cases e) (RowsAt.nil _ _ _ _ _ (by simp [maxLen])) (fun _ => rfl)
  rw [u_do1.1, u_do1.2] at hh
  have HUP := Lib.hid hup
  clear hup
  go_upto_region 4 with (go_at_call 55; refine hh.mono ?_; clear hh; rintro e w7 ⟨ra3, rc3, ha3, hc3, ma3, mc3, rfl, hs7, hb7⟩; have HS7 := Lib.hid hs7; have HB7 := Lib.hid hb7; clear hs7 hb7)
  clear x0 x1 x2 x3 x4 z0 z1 z2 z3 z4
  have hbn : Below W.heap.size W (w7.alloc (.cells #[.bool uA.fr, .int .i64 uA.nx, .slice ra3 uA.rd.length rc3, .slice ha3 uA.hd.length hc3, .slice ma3 uA.ms.length mc3] 26)) := up_al HUP.out HB7.out _
  have ys := Hs.out.below _ _ _ _ _ _ hbn
  have ym := Hm.out.below hbn
  have yC := HC.out.trans (hbn.mono HC.out.size)
  clear HC hbn Hs Hm
  have ya := (show Bx (w7.alloc (.cells #[.bool uA.fr, .int .i64 uA.nx, .slice ra3 uA.rd.length rc3, .slice ha3 uA.hd.length hc3, .slice ma3 uA.ms.length mc3] 26)) w7.heap.size ra3 rc3 ha3 hc3 ma3 mc3 uA from ⟨heap_alloc_new _ _, sd_al _ _ _ _ _ _ HS7.out _⟩)
  clear HUP HS7 HB7
  have HC := Lib.hid yC
  have Hs := Lib.hid ys
  have Hm := Lib.hid ym
  have Ha := Lib.hid ya
  clear yC ys ym ya
  generalize hE : w7.alloc (.cells #[.bool uA.fr, .int .i64 uA.nx, .slice ra3 uA.rd.length rc3, .slice ha3 uA.hd.length hc3, .slice ma3 uA.ms.length mc3] 26) = W1 at *
  clear hE
  generalize w7.heap.size = ga at *
  obtain ⟨⟨x0, x1, x2, x3, x4⟩, -⟩ := box5 Ha.out.bx
  have hh := get_any uA ra3 rc3 ha3 hc3 ma3 mc3 W1 Ha.out.sd
  unfold GetR at hh
  rw [u_get.1, u_get.2.1, u_get.2.2] at hh
  go_upto_region 5 with (go_at_call 22; refine hh.mono ?_; clear hh; rintro e w7 ⟨ra4, rc4, ha4, hc4, ma4, mc4, rfl, ho7, hsm7, hb7⟩; have hs7 := ho7.sd _ _ _ _ _ _ hsm7; clear ho7 hsm7; have HS7 := Lib.hid hs7; have HB7 := Lib.hid hb7; clear hs7 hb7)
  clear x0 x1 x2 x3 x4
  have hbn : Below W1.heap.size W1 ((w7.alloc (.cells #[.bool uB.fr, .int .i64 uB.nx, .slice ra4 uB.rd.length rc4, .slice ha4 uB.hd.length hc4, .slice ma4 uB.ms.length mc4] 26)).alloc (.cells #[.int .i64 uH.tag, .int .i64 uH.m.pub, .int .i64 uH.m.seq, .string ⟨uH.m.key.toArray⟩, .string ⟨uH.m.body.toArray⟩, .bool uH.m.again] 37)) := low_al (up_al (Below.refl _ _) HB7.out _) (Nat.le_refl _) _
  have ys := Hs.out.below _ _ _ _ _ _ hbn
  have ym := Hm.out.below hbn
  have ya := Ha.out.below _ _ _ _ _ _ hbn
  have yC := HC.out.trans (hbn.mono HC.out.size)
  clear HC hbn Hs Hm Ha
  have yb := (show Bx ((w7.alloc (.cells #[.bool uB.fr, .int .i64 uB.nx, .slice ra4 uB.rd.length rc4, .slice ha4 uB.hd.length hc4, .slice ma4 uB.ms.length mc4] 26)).alloc (.cells #[.int .i64 uH.tag, .int .i64 uH.m.pub, .int .i64 uH.m.seq, .string ⟨uH.m.key.toArray⟩, .string ⟨uH.m.body.toArray⟩, .bool uH.m.again] 37)) w7.heap.size ra4 rc4 ha4 hc4 ma4 mc4 uB from ⟨(two_box (w := w7) (.cells #[.bool uB.fr, .int .i64 uB.nx, .slice ra4 uB.rd.length rc4, .slice ha4 uB.hd.length hc4, .slice ma4 uB.ms.length mc4] 26) (.cells #[.int .i64 uH.tag, .int .i64 uH.m.pub, .int .i64 uH.m.seq, .string ⟨uH.m.key.toArray⟩, .string ⟨uH.m.body.toArray⟩, .bool uH.m.again] 37)).1, sd_al _ _ _ _ _ _ (sd_al _ _ _ _ _ _ HS7.out _) _⟩)
  clear HS7 HB7
  have HC := Lib.hid yC
  have Hs := Lib.hid ys
  have Hm := Lib.hid ym
  have Ha := Lib.hid ya
  have Hb := Lib.hid yb
  clear yC ys ym ya yb
  generalize hE : (w7.alloc (.cells #[.bool uB.fr, .int .i64 uB.nx, .slice ra4 uB.rd.length rc4, .slice ha4 uB.hd.length hc4, .slice ma4 uB.ms.length mc4] 26)).alloc (.cells #[.int .i64 uH.tag, .int .i64 uH.m.pub, .int .i64 uH.m.seq, .string ⟨uH.m.key.toArray⟩, .string ⟨uH.m.body.toArray⟩, .bool uH.m.again] 37) = W2 at *
  clear hE
  generalize w7.heap.size = gb at *
  clear Ha
  obtain ⟨⟨z0, z1, z2, z3, z4⟩, -⟩ := box5 Hm.out.bx
  go_upto_region 7 with fail
  have hbn : Below W2.heap.size W2 (W2.alloc (.cells #[.int .i64 uM.pub, .int .i64 2, .string ⟨uM.key.toArray⟩, .string ⟨uM.body.toArray⟩, .bool uM.again] 35)) := low_al (Below.refl _ _) (Nat.le_refl _) _
  have ys := Hs.out.below _ _ _ _ _ _ hbn
  have ym := Hm.out.below hbn
  have yb := Hb.out.below _ _ _ _ _ _ hbn
  have yC := HC.out.trans (hbn.mono HC.out.size)
  clear HC hbn Hs Hm Hb
  have yn := (show Bm (W2.alloc (.cells #[.int .i64 uM.pub, .int .i64 2, .string ⟨uM.key.toArray⟩, .string ⟨uM.body.toArray⟩, .bool uM.again] 35)) W2.heap.size uN from ⟨heap_alloc_new _ _⟩)
  clear z0 z1 z2 z3 z4
  have HC := Lib.hid yC
  have Hs := Lib.hid ys
  have Hm := Lib.hid ym
  have Hb := Lib.hid yb
  have Hn := Lib.hid yn
  clear yC ys ym yb yn
  generalize hE : W2.alloc (.cells #[.int .i64 uM.pub, .int .i64 2, .string ⟨uM.key.toArray⟩, .string ⟨uM.body.toArray⟩, .bool uM.again] 35) = W3 at *
  clear hE
  generalize W2.heap.size = gn at *
  clear Hm
  obtain ⟨⟨x0, x1, x2, x3, x4⟩, -⟩ := box5 Hb.out.bx
  obtain ⟨⟨z0, z1, z2, z3, z4⟩, -⟩ := box5 Hn.out.bx
  have hup : Below W3.heap.size W3 ((W3.alloc (.cells #[.int .i64 uN.pub, .int .i64 uN.seq, .string ⟨uN.key.toArray⟩, .string ⟨uN.body.toArray⟩, .bool uN.again] 35)).alloc (.cells #[.int .i64 1] 3)) := (low_al (low_al (Below.refl _ _) (Nat.le_refl _) (.cells #[.int .i64 uN.pub, .int .i64 uN.seq, .string ⟨uN.key.toArray⟩, .string ⟨uN.body.toArray⟩, .bool uN.again] 35)) (Nat.le_refl _) (.cells #[.int .i64 1] 3))
  have hh := bdo_any uB ra4 rc4 ha4 hc4 ma4 mc4 (some ⟨W3.heap.size, 0, none⟩) 1 [uN] (by decide) (some ⟨W3.heap.size + 1, 0, none⟩) 1 [1] ((W3.alloc (.cells #[.int .i64 uN.pub, .int .i64 uN.seq, .string ⟨uN.key.toArray⟩, .string ⟨uN.body.toArray⟩, .bool uN.again] 35)).alloc (.cells #[.int .i64 1] 3)) (Hb.out.sd.below _ _ _ _ _ _ hup) (mgs_one (m := uN) (two_box (w := W3) (.cells #[.int .i64 uN.pub, .int .i64 uN.seq, .string ⟨uN.key.toArray⟩, .string ⟨uN.body.toArray⟩, .bool uN.again] 35) (.cells #[.int .i64 1] 3)).1) (fun e => by cases e) (ins_of (l := [1]) (two_box (w := W3) (.cells #[.int .i64 uN.pub, .int .i64 uN.seq, .string ⟨uN.key.toArray⟩, .string ⟨uN.body.toArray⟩, .bool uN.again] 35) (.cells #[.int .i64 1] 3)).2.1 (by decide)) (fun e => by cases e)
  rw [u_do2.1, u_do2.2] at hh
  have HUP := Lib.hid hup
  clear hup
  go_upto_region 8 with (go_at_call 55; refine hh.mono ?_; clear hh; rintro e w7 ⟨ra5, rc5, ha5, hc5, ma5, mc5, rfl, hs7, hb7⟩; have HS7 := Lib.hid hs7; have HB7 := Lib.hid hb7; clear hs7 hb7)
  clear x0 x1 x2 x3 x4 z0 z1 z2 z3 z4
  have hbn : Below W3.heap.size W3 (w7.alloc (.cells #[.bool uC.fr, .int .i64 uC.nx, .slice ra5 uC.rd.length rc5, .slice ha5 uC.hd.length hc5, .slice ma5 uC.ms.length mc5] 26)) := up_al HUP.out HB7.out _
  have ys := Hs.out.below _ _ _ _ _ _ hbn
  have yb := Hb.out.below _ _ _ _ _ _ hbn
  have yn := Hn.out.below hbn
  have yC := HC.out.trans (hbn.mono HC.out.size)
  clear HC hbn Hs Hb Hn
  have yc := (show Bx (w7.alloc (.cells #[.bool uC.fr, .int .i64 uC.nx, .slice ra5 uC.rd.length rc5, .slice ha5 uC.hd.length hc5, .slice ma5 uC.ms.length mc5] 26)) w7.heap.size ra5 rc5 ha5 hc5 ma5 mc5 uC from ⟨heap_alloc_new _ _, sd_al _ _ _ _ _ _ HS7.out _⟩)
  clear HUP HS7 HB7
  have HC := Lib.hid yC
  have Hs := Lib.hid ys
  have Hb := Lib.hid yb
  have Hn := Lib.hid yn
  have Hc := Lib.hid yc
  clear yC ys yb yn yc
  generalize hE : w7.alloc (.cells #[.bool uC.fr, .int .i64 uC.nx, .slice ra5 uC.rd.length rc5, .slice ha5 uC.hd.length hc5, .slice ma5 uC.ms.length mc5] 26) = W4 at *
  clear hE
  generalize w7.heap.size = gc at *
  obtain ⟨⟨x0, x1, x2, x3, x4⟩, -⟩ := box5 Hb.out.bx
  obtain ⟨⟨z0, z1, z2, z3, z4⟩, -⟩ := box5 Hn.out.bx
  have hup : Below W4.heap.size W4 ((W4.alloc (.cells #[.int .i64 uN.pub, .int .i64 uN.seq, .string ⟨uN.key.toArray⟩, .string ⟨uN.body.toArray⟩, .bool uN.again] 35)).alloc (.cells #[.int .i64 1, .int .i64 1] 3)) := (low_al (low_al (Below.refl _ _) (Nat.le_refl _) (.cells #[.int .i64 uN.pub, .int .i64 uN.seq, .string ⟨uN.key.toArray⟩, .string ⟨uN.body.toArray⟩, .bool uN.again] 35)) (Nat.le_refl _) (.cells #[.int .i64 1, .int .i64 1] 3))
  have hh := bdo_any uB ra4 rc4 ha4 hc4 ma4 mc4 (some ⟨W4.heap.size, 0, none⟩) 1 [uN] (by decide) (some ⟨W4.heap.size + 1, 0, none⟩) 2 [1, 1] ((W4.alloc (.cells #[.int .i64 uN.pub, .int .i64 uN.seq, .string ⟨uN.key.toArray⟩, .string ⟨uN.body.toArray⟩, .bool uN.again] 35)).alloc (.cells #[.int .i64 1, .int .i64 1] 3)) (Hb.out.sd.below _ _ _ _ _ _ hup) (mgs_one (m := uN) (two_box (w := W4) (.cells #[.int .i64 uN.pub, .int .i64 uN.seq, .string ⟨uN.key.toArray⟩, .string ⟨uN.body.toArray⟩, .bool uN.again] 35) (.cells #[.int .i64 1, .int .i64 1] 3)).1) (fun e => by cases e) (ins_of (l := [1, 1]) (two_box (w := W4) (.cells #[.int .i64 uN.pub, .int .i64 uN.seq, .string ⟨uN.key.toArray⟩, .string ⟨uN.body.toArray⟩, .bool uN.again] 35) (.cells #[.int .i64 1, .int .i64 1] 3)).2.1 (by decide)) (fun e => by cases e)
  rw [u_do3.1, u_do3.2] at hh
  have HUP := Lib.hid hup
  clear hup
  go_upto_region 9 with (go_at_call 55; refine hh.mono ?_; clear hh; rintro e w7 ⟨ra9, rc9, ha9, hc9, ma9, mc9, rfl, hs7, hb7⟩; have HS7 := Lib.hid hs7; have HB7 := Lib.hid hb7; clear hs7 hb7)
  clear x0 x1 x2 x3 x4 z0 z1 z2 z3 z4
  have hbn : Below W4.heap.size W4 (w7.alloc (.cells #[.bool uB.fr, .int .i64 uB.nx, .slice ra9 uB.rd.length rc9, .slice ha9 uB.hd.length hc9, .slice ma9 uB.ms.length mc9] 26)) := up_al HUP.out HB7.out _
  have ys := Hs.out.below _ _ _ _ _ _ hbn
  have yb := Hb.out.below _ _ _ _ _ _ hbn
  have yn := Hn.out.below hbn
  have yc := Hc.out.below _ _ _ _ _ _ hbn
  have yC := HC.out.trans (hbn.mono HC.out.size)
  clear HC hbn Hs Hb Hn Hc
  clear HUP HS7 HB7
  have HC := Lib.hid yC
  have Hs := Lib.hid ys
  have Hb := Lib.hid yb
  have Hn := Lib.hid yn
  have Hc := Lib.hid yc
  clear yC ys yb yn yc
  generalize hE : w7.alloc (.cells #[.bool uB.fr, .int .i64 uB.nx, .slice ra9 uB.rd.length rc9, .slice ha9 uB.hd.length hc9, .slice ma9 uB.ms.length mc9] 26) = W5 at *
  clear hE
  clear Hn
  clear Hb
  obtain ⟨⟨x0, x1, x2, x3, x4⟩, -⟩ := box5 Hs.out.bx
  have hup : Below W5.heap.size W5 W5 := (Below.refl _ _)
  have hh := bdo_any sd1 none 0 none 0 none 0 none 0 [] (by decide) none 0 [] W5 (Hs.out.sd.below _ _ _ _ _ _ hup) (RowsAt.nil _ _ _ _ _ (by simp [maxLen])) (fun _ => rfl) (RowsAt.nil _ _ _ _ _ (by simp [maxLen])) (fun _ => rfl)
  rw [u_do4.1, u_do4.2] at hh
  have HUP := Lib.hid hup
  clear hup
  go_upto_region 10 with (go_at_call 55; refine hh.mono ?_; clear hh; rintro e w7 ⟨ra9, rc9, ha9, hc9, ma9, mc9, rfl, hs7, hb7⟩; have HS7 := Lib.hid hs7; have HB7 := Lib.hid hb7; clear hs7 hb7)
  clear x0 x1 x2 x3 x4
  have hbn : Below W5.heap.size W5 (w7.alloc (.cells #[.bool sd1.fr, .int .i64 sd1.nx, .slice ra9 sd1.rd.length rc9, .slice ha9 sd1.hd.length hc9, .slice ma9 sd1.ms.length mc9] 26)) := up_al HUP.out HB7.out _
  have ys := Hs.out.below _ _ _ _ _ _ hbn
  have yc := Hc.out.below _ _ _ _ _ _ hbn
  have yC := HC.out.trans (hbn.mono HC.out.size)
  clear HC hbn Hs Hc
  clear HUP HS7 HB7
  have HC := Lib.hid yC
  have Hs := Lib.hid ys
  have Hc := Lib.hid yc
  clear yC ys yc
  generalize hE : w7.alloc (.cells #[.bool sd1.fr, .int .i64 sd1.nx, .slice ra9 sd1.rd.length rc9, .slice ha9 sd1.hd.length hc9, .slice ma9 sd1.ms.length mc9] 26) = W6 at *
  clear hE
  clear Hs
  have hh := newsB 0 (by decide) W6
  go_upto_region 13 with (go_at_call 46; refine hh.mono ?_; clear hh; rintro e v1 ⟨rfl, ht1, hb1⟩; have HT1 := Lib.hid ht1; have HK1 := Lib.hid hb1; clear ht1 hb1)
  have hh := pubB _ _ (tx0 0) 1 5 [107] [120] v1 HT1.out HK1.out.size
  rw [u_p1.1, u_p1.2] at hh
  go_upto_region 14 with (go_at_call 48; refine hh.mono ?_; clear hh; rintro e v2 ⟨rfl, ht1, hb1⟩; have HT2 := Lib.hid ht1; have HK2 := Lib.hid (HK1.out.trans hb1); clear ht1 hb1)
  have hh := pubB _ _ uT1 1 6 [108] [120] v2 HT2.out HK2.out.size
  rw [u_p2.1, u_p2.2] at hh
  go_upto_region 15 with (go_at_call 48; refine hh.mono ?_; clear hh; rintro e v3 ⟨rfl, ht1, hb1⟩; have HT3 := Lib.hid ht1; have HK3 := Lib.hid (HK2.out.trans hb1); clear ht1 hb1)
  have hh := ackB _ _ uT1 1 3 [107] v3 HT3.out HK3.out.size
  rw [u_a.1, u_a.2] at hh
  go_upto_region 16 with (go_at_call 50; refine hh.mono ?_; clear hh; rintro e v4 ⟨rfl, ht1, hb1⟩; have HT4 := Lib.hid ht1; have HK4 := Lib.hid (HK3.out.trans hb1); clear ht1 hb1)
  have hh := takeB _ _ uT2 v4 HT4.out HK4.out.size
  unfold TakeB at hh
  rw [u_t.1, u_t.2.1, u_t.2.2.1] at hh
  have HNB := Lib.hid fun wx => news_bad (-1) (by decide) wx
  clear HT1 HK1 HT2 HK2 HT3 HK3
  go_wp2_with (first | (go_at_call 52; refine hh.mono ?_; clear hh; rintro e v5 ⟨pa, pc, ta, tc, rfl, -, -, -, -, ht1, hb1⟩; have HT5 := Lib.hid ht1; have HK5 := Lib.hid (HK4.out.trans hb1); clear ht1 hb1; obtain ⟨⟨x0, x1, x2, x3, x4⟩, -⟩ := box5 (Hc.out.below _ _ _ _ _ _ HK5.out).bx; rw [u_t.2.2.2.1] at x2; rw [u_t.2.2.2.2.1] at x3; have hl := lenB _ _ _ v5 HT5.out; rw [u_t.2.2.2.2.2] at hl; have HL := Lib.hid hl; clear hl) | (go_at_call 54; refine HL.out.mono ?_; rintro e v6 ⟨rfl, n6, rfl⟩) | (go_at_call 46; refine (HNB.out _).mono ?_; rintro e v7 ⟨rfl, rfl⟩))
  go_ret
  exact ⟨rfl, HC.out.trans ((Rg.Below.drewN HK5.out _).mono HC.out.size)⟩

end Go.Proofs.Ythohjcfpobeplaa.Bt
