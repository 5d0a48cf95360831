/-
  RingQuarters, walked.
-/
import Derived.Test.YtphamgnafhmelaaDoorR9Half
import Derived.Test.YtphamgnafhmelaaDoorRgSame
namespace Go.Proofs.YtphamgnafhmelaaDoor.Rg
open Go.RowKit
set_option linter.unusedVariables false

theorem sm_flat {T U : List Tr} (h : T.Perm U) (g : Tr → List Tr) (x : Int) : sm (T.flatMap g) x = sm (U.flatMap g) x := sm_perm (h.flatMap_right g) x
theorem len_flat {T U : List Tr} (h : T.Perm U) (g : Tr → List Tr) : (T.flatMap g).length = (U.flatMap g).length := (h.flatMap_right g).length_eq
/-- an arc alone, halved. -/
def hA (f x y : Int) : List Ar := halveF [⟨f, x⟩] x y
def qA (f x y z : Int) : List Ar := halveF (hA f x y) y z
theorem one_wf (f x : Int) (hf : 0 ≤ f ∧ f < 4294967296) : Wf [⟨f, x⟩] := fun a ha => by simp at ha; subst ha; exact hf
theorem hA_ring (f x y : Int) (hf : 0 ≤ f ∧ f < 4294967296) (hx : 0 ≤ x ∧ x < 16) : [⟨f, halfAt ⟨f, f, x⟩, x⟩, ⟨halfAt ⟨f, f, x⟩, f, y⟩].Perm (ringT (hA f x y)) := by
  have h := halve_ring (one_wf f x hf) (may_one f x hx).up x y
  have e : (ringT [⟨f, x⟩]).flatMap (sp2 x y) = [⟨f, halfAt ⟨f, f, x⟩, x⟩, ⟨halfAt ⟨f, f, x⟩, f, y⟩] := by
    show (sp2 x y ⟨f, f, x⟩) ++ [] = _
    unfold sp2
    rw [if_pos (by unfold cuts; rw [wd_self]; simp), List.append_nil]
  rw [e] at h
  exact h
theorem quart {f x y z : Int} (hf : 0 ≤ f ∧ f < 4294967296) (hx : 0 ≤ x ∧ x < 16) (hy : 0 ≤ y ∧ y < 16) (hz : 0 ≤ z ∧ z < 16) (hxy : x ≠ y) (hyz : y ≠ z) (hxz : x ≠ z) :
    halveA [⟨f, x⟩] x y = hA f x y ∧ halveA (hA f x y) y z = qA f x y z ∧ halveA (hA f x y) z z = hA f x y ∧ (hA f x y).length = 2 ∧ (qA f x y z).length = 3 ∧ Wf (hA f x y) ∧ Wf (qA f x y z) ∧
    shareA (qA f x y z) x = 2147483648 ∧ shareA (qA f x y z) y = 1073741824 ∧ shareA (qA f x y z) z = 1073741824 := by
  have hok : ∀ s : Int, 0 ≤ s ∧ s < 16 → okS s = true := fun s hs => by unfold okS; simp; omega
  have hr := hA_ring f x y hf hx
  have h1 := may_one f x hx
  have w1 := one_wf f x hf
  have hw1 : Wf (hA f x y) := halve_wf w1 x y
  have hm1 : May (hA f x y) := halve_may w1 h1 (by simp) x y hy
  have hl1 : (hA f x y).length = 2 := by
    have := hr.length_eq
    rw [ring_length] at this
    exact this.symm
  have hw2 : Wf (qA f x y z) := halve_wf hw1 y z
  have hm2 : May (qA f x y z) := halve_may hw1 hm1 (by omega) y z hz
  have hr2 := halve_ring hw1 hm1.up y z
  have hh : 0 ≤ halfAt ⟨f, f, x⟩ ∧ halfAt ⟨f, f, x⟩ < 4294967296 ∧ halfAt ⟨f, f, x⟩ = (f + 2147483648) % 4294967296 := by
    have e : halfAt ⟨f, f, x⟩ = (f + 2147483648) % 4294967296 := by
      show (f + wd f f / 2) % 4294967296 = _
      rw [wd_self]
      omega
    rw [e]
    omega
  generalize halfAt ⟨f, f, x⟩ = h at *
  have hwd1 : wd f h = 2147483648 := by unfold wd; omega
  have hwd2 : wd h f = 2147483648 := by unfold wd; omega
  have hc1 : sp2 y z ⟨f, h, x⟩ = [⟨f, h, x⟩] := if_neg (by unfold cuts; simp [hxy])
  have hc2 : sp2 y z ⟨h, f, y⟩ = [⟨h, halfAt ⟨h, f, y⟩, y⟩, ⟨halfAt ⟨h, f, y⟩, f, z⟩] := if_pos (by unfold cuts; rw [hwd2]; simp)
  have hflat : [(⟨f, h, x⟩ : Tr), ⟨h, f, y⟩].flatMap (sp2 y z) = [⟨f, h, x⟩, ⟨h, halfAt ⟨h, f, y⟩, y⟩, ⟨halfAt ⟨h, f, y⟩, f, z⟩] := by
    rw [List.flatMap_cons, List.flatMap_cons, List.flatMap_nil, hc1, hc2]
    rfl
  have hq : 0 ≤ halfAt ⟨h, f, y⟩ ∧ halfAt ⟨h, f, y⟩ < 4294967296 ∧ halfAt ⟨h, f, y⟩ = (h + 1073741824) % 4294967296 := by
    have e : halfAt ⟨h, f, y⟩ = (h + 1073741824) % 4294967296 := by
      show (h + wd h f / 2) % 4294967296 = _
      rw [hwd2]
      omega
    rw [e]
    omega
  generalize halfAt ⟨h, f, y⟩ = q at *
  have hw3 : wd h q = 1073741824 := by unfold wd; omega
  have hw4 : wd q f = 1073741824 := by unfold wd; omega
  have hsh : ∀ s : Int, shareA (qA f x y z) s = sm [⟨f, h, x⟩, ⟨h, q, y⟩, ⟨q, f, z⟩] s := fun s => by
    unfold shareA
    rw [if_pos hm2]
    unfold shareF
    rw [show ringT (qA f x y z) = ringT (halveF (hA f x y) y z) from rfl, ← sm_perm hr2, ← sm_flat hr, hflat]
  have hl2 : (qA f x y z).length = 3 := by
    have := hr2.length_eq
    rw [ring_length, ← len_flat hr, hflat] at this
    exact this.symm
  have hcl : ∀ (l : List Ar) (s o : Int), (halveF l s o).length = (cutF l s o).length := fun l s o => by unfold halveF; rw [srt_length]
  refine ⟨?_, ?_, ?_, hl1, hl2, hw1, hw2, ?_, ?_, ?_⟩
  · unfold halveA
    rw [if_pos ⟨h1, hok y hy, by rw [← hcl]; show (hA f x y).length ≤ 1024; omega⟩]; rfl
  · unfold halveA
    rw [if_pos ⟨hm1, hok z hz, by rw [← hcl]; show (qA f x y z).length ≤ 1024; omega⟩]; rfl
  · have hno : ∀ t ∈ ringT (hA f x y), ¬ t.s = z := fun t ht => by
      have := hr.mem_iff.2 ht
      simp only [List.mem_cons, List.not_mem_nil, or_false] at this
      rcases this with rfl | rfl
      · exact hxz
      · exact hyz
    have hcut : cutF (hA f x y) z z = hA f x y := by
      unfold cutF cutT
      have h : ∀ T : List Tr, (∀ t ∈ T, ¬ t.s = z) → T.flatMap (sp z z) = T.map fun t => (⟨t.f, t.s⟩ : Ar) := fun T hT => by
        induction T with
        | nil => rfl
        | cons t r ih =>
          rw [List.flatMap_cons, List.map_cons, ih fun u hu => hT u (by simp [hu])]
          rw [show sp z z t = [⟨t.f, t.s⟩] from if_neg (by unfold cuts; simp [hT t (by simp)])]
          rfl
      rw [h _ hno]
      unfold ringT
      have h2 : ∀ (l : List Ar) (e : Int), (tr l e).map (fun t => (⟨t.f, t.s⟩ : Ar)) = l := fun l => by
        induction l with
        | nil => intro e; rfl
        | cons a t ih => intro e; rw [tr, List.map_cons, ih]
      exact h2 _ _
    unfold halveA
    rw [if_pos ⟨hm1, hok z hz, by rw [hcut]; omega⟩]
    unfold halveF
    rw [hcut]
    exact (srt_one hm1.up (List.Perm.refl _)).symm
  · rw [hsh]; simp [sm, hwd1, Ne.symm hxy, Ne.symm hxz]
  · rw [hsh]; simp [sm, hw3, hxy, Ne.symm hyz]
  · rw [hsh]; simp [sm, hw4, hxz, hyz]

set_option maxRecDepth 100000 in
set_option maxHeartbeats 4000000 in
theorem quarters_any (f p1 p2 p3 : Int) (w : World) (h0 : (Lit.int .u32 f).wf = true) :
    Calls Tryd.prog 9 #[.int .u32 f, .int .i64 p1, .int .i64 p2, .int .i64 p3] w fun e w' => e = .returned (.bool true) ∧ Below w.heap.size w w' := by
  have hf := in_u32 h0
  have HT := Lib.hid told_any
  clear h0
  obtain ⟨x, hx, hx16⟩ := mod16 p1
  obtain ⟨y, hy, hy16⟩ := mod16 p2
  obtain ⟨z, hz, hz16⟩ := mod16 p3
  obtain ⟨q1, hq1⟩ : ∃ q, IntKind.u64.wrap p1 = q := ⟨_, rfl⟩
  obtain ⟨q2, hq2⟩ : ∃ q, IntKind.u64.wrap p2 = q := ⟨_, rfl⟩
  obtain ⟨q3, hq3⟩ : ∃ q, IntKind.u64.wrap p3 = q := ⟨_, rfl⟩
  rw [hq1] at hx
  rw [hq2] at hy
  rw [hq3] at hz
  have x1 : (x : Int) < 16 := by omega
  have x0 : (0 : Int) ≤ (x : Int) := by omega
  have y1 : (y : Int) < 16 := by omega
  have y0 : (0 : Int) ≤ (y : Int) := by omega
  have z1 : (z : Int) < 16 := by omega
  have z0 : (0 : Int) ≤ (z : Int) := by omega
  by_cases hxy : x = y
  · have e1 : ((x : Int) == (y : Int)) = true := by rw [beq_iff_eq]; omega
    clear hxy
    go_enter Tryd.func9, Tryd.ntmps9
    go_wp2_with (go_at_call 11; refine (HT.out _).mono ?_; rintro e w2 ⟨rfl, hb2⟩; have HB2 := Lib.hid hb2; clear hb2)
    go_ret
    exact ⟨rfl, HB2.out⟩
  have e1 : ((x : Int) == (y : Int)) = false := by rw [beq_eq_false_iff_ne]; omega
  by_cases hyz : y = z
  · have e2 : ((y : Int) == (z : Int)) = true := by rw [beq_iff_eq]; omega
    clear hyz
    go_enter Tryd.func9, Tryd.ntmps9
    go_wp2_with (go_at_call 11; refine (HT.out _).mono ?_; rintro e w2 ⟨rfl, hb2⟩; have HB2 := Lib.hid hb2; clear hb2)
    go_ret
    exact ⟨rfl, HB2.out⟩
  have e2 : ((y : Int) == (z : Int)) = false := by rw [beq_eq_false_iff_ne]; omega
  by_cases hxz : x = z
  · have e3 : ((x : Int) == (z : Int)) = true := by rw [beq_iff_eq]; omega
    clear hxz
    go_enter Tryd.func9, Tryd.ntmps9
    go_wp2_with (go_at_call 11; refine (HT.out _).mono ?_; rintro e w2 ⟨rfl, hb2⟩; have HB2 := Lib.hid hb2; clear hb2)
    go_ret
    exact ⟨rfl, HB2.out⟩
  have e3 : ((x : Int) == (z : Int)) = false := by rw [beq_eq_false_iff_ne]; omega
  obtain ⟨k1, k2, k3, k4, k5, k6, k7, k8, k9, k10⟩ := quart (f := f) (x := x) (y := y) (z := z) hf ⟨x0, x1⟩ ⟨y0, y1⟩ ⟨z0, z1⟩ (by omega) (by omega) (by omega)
  have HH1 := Lib.hid fun (wx : World) (a : Option Addr) (hx : AsAt wx a 1 [⟨f, x⟩]) => halve_any a 1 [⟨f, x⟩] x y wx hx (one_wf f x hf)
  have HH2 := Lib.hid fun (wx : World) (a : Option Addr) (c : Nat) (hx : AsAt wx a c (hA f x y)) => halve_any a c (hA f x y) y z wx hx k6
  have HH3 := Lib.hid fun (wx : World) (a : Option Addr) (c : Nat) (hx : AsAt wx a c (hA f x y)) => halve_any a c (hA f x y) z z wx hx k6
  have HS := Lib.hid fun (s : Int) (wx : World) (a : Option Addr) (c : Nat) (hx : AsAt wx a c (qA f x y z)) => share_any a c (qA f x y z) s wx hx k7
  have HS1 := Lib.hid (HS.out x)
  have HS2 := Lib.hid (HS.out y)
  have HS3 := Lib.hid (HS.out z)
  unfold ArsR at HH1 HH2 HH3
  rw [k1, k4] at HH1
  rw [k2, k4, k5] at HH2
  rw [k3, k4] at HH3
  rw [k8, k5] at HS1
  rw [k9, k5] at HS2
  rw [k10, k5] at HS3
  have HSM := Lib.hid fun (wx : World) (a b : Option Addr) (c d : Nat) (h1 : AsAt wx a c (hA f x y)) (h2 : AsAt wx b d (hA f x y)) => same_any a b c d (hA f x y) (hA f x y) wx h1 h2
  rw [k4, decide_eq_true rfl] at HSM
  have HLIT := Lib.hid fun wx => ars_lit wx f x
  clear k1 k2 k3 k4 k5 k6 k7 k8 k9 k10 HS hxy hyz hxz
  generalize hA f x y = LA at *
  generalize qA f x y z = QA at *
  go_enter Tryd.func9, Tryd.ntmps9
  go_wp2_with fail
  refine (HH1.out _ (some ⟨w.heap.size, 0, none⟩) (HLIT.out w)).mono ?_
  rintro e w1 ⟨a1, c1, rfl, hat1, _, hb1⟩
  have HL1 := Lib.hid (Below.trans ((Below.refl w.heap.size w).alloc (Nat.le_refl _) _) (hb1.mono (by simp)))
  have HA1 := Lib.hid hat1
  clear hb1 hat1
  go_wp2_with fail
  refine (HH2.out _ a1 c1 HA1.out).mono ?_
  rintro e w2 ⟨a2, c2, rfl, hat2, _, hb2⟩
  have HL2 := Lib.hid (HL1.out.trans (hb2.mono HL1.out.size))
  have HA2 := Lib.hid hat2
  have HA1b := Lib.hid (HA1.out.below hb2)
  clear hb2 hat2
  go_wp2_with fail
  refine (HT.out _).mono ?_
  rintro e w3 ⟨rfl, hb3⟩
  have HL3 := Lib.hid (HL2.out.trans (hb3.mono HL2.out.size))
  have HA2c := Lib.hid (HA2.out.below hb3)
  have HA1c := Lib.hid (HA1b.out.below hb3)
  clear hb3
  go_wp2_with fail
  refine (HS1.out _ a2 c2 HA2c.out).mono ?_
  rintro e w4 ⟨rfl, hd⟩
  have HL4 := Lib.hid (HL3.out.trans (hd.below.mono HL3.out.size))
  have HA2d := Lib.hid (HA2c.out.below hd.below)
  have HA1d := Lib.hid (HA1c.out.below hd.below)
  clear hd
  go_wp2_with fail
  refine (HS2.out _ a2 c2 HA2d.out).mono ?_
  rintro e w5 ⟨rfl, hd⟩
  have HL5 := Lib.hid (HL4.out.trans (hd.below.mono HL4.out.size))
  have HA2e := Lib.hid (HA2d.out.below hd.below)
  have HA1e := Lib.hid (HA1d.out.below hd.below)
  clear hd
  go_wp2_with fail
  refine (HS3.out _ a2 c2 HA2e.out).mono ?_
  rintro e w6 ⟨rfl, hd⟩
  have HL6 := Lib.hid (HL5.out.trans (hd.below.mono HL5.out.size))
  have HA1f := Lib.hid (HA1e.out.below hd.below)
  clear hd
  go_wp2_with fail
  refine (HH3.out _ a1 c1 HA1f.out).mono ?_
  rintro e w7 ⟨a7, c7, rfl, hat7, _, hb7⟩
  have HL7 := Lib.hid (HL6.out.trans (hb7.mono HL6.out.size))
  have HA7 := Lib.hid hat7
  have HA1g := Lib.hid (HA1f.out.below hb7)
  clear hb7 hat7
  go_wp2_with fail
  refine (HSM.out _ a7 a1 c7 c1 HA7.out HA1g.out).mono ?_
  rintro e w8 ⟨rfl, hd⟩
  have HL8 := Lib.hid (HL7.out.trans (hd.below.mono HL7.out.size))
  clear hd
  go_wp2_with fail
  go_ret
  exact ⟨rfl, HL8.out⟩

end Go.Proofs.YtphamgnafhmelaaDoor.Rg
