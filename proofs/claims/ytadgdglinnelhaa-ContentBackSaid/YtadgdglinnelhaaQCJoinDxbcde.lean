/-
  mayCut, walked.
  A message's frames, plain.
  Cut, walked.
  A join in memory; New, takeCall, takeHeader, take, Add, Done, walked.
-/
import Derived.Test.YtadgdglinnelhaaQMDatxfdbe
import Derived.Test.YtadgdglinnelhaaQMEndxaebe
import Derived.Test.YtadgdglinnelhaaQCLeafxbbbd
import Derived.BigRegion
import Derived.Laws.Cells
namespace Go.Proofs.Ytadgdglinnelhaa
open Go.RowKit
set_option linter.unusedVariables false
variable {B : Nat}

/-- what may be cut. -/
def MayC (ch : Int) (m : Me) (n : Nat) (most : Int) : Prop := MayM m ∧ Has m.id ∧ (1 ≤ ch ∧ ch ≤ 65535) ∧ (8 ≤ most ∧ most ≤ 4096) ∧ n ≤ 65536

theorem meC_id (m : Me) (a : Option Addr) (cap : Nat) : (meC m a cap)[0]? = some (.int .i64 m.id) := rfl

set_option maxRecDepth 100000 in
set_option maxHeartbeats 4000000 in
theorem mayCut_any {w : World} {m : Me} {a : Option Addr} {cap : Nat} (ht : Tb w a cap m.args) (wf : m.Wf) (ch : Int) (ba : Option Addr) (n bc : Nat) (most : Int) :
    Calls Try.prog 18 #[.int .i64 ch, .agg (meC m a cap), .slice ba n bc, .int .i64 most] w (SaysB (MayC ch m n most) w) := by
  have hat0 : MeAt (w.alloc (.cells (meC m a cap) 25)) w.heap.size m a cap := heap_alloc_new w _
  have hb0 : Below w.heap.size w (w.alloc (.cells (meC m a cap) 25)) := (Below.refl _ _).alloc (Nat.le_refl _) _
  have hws : (w.alloc (.cells (meC m a cap) 25)).heap.size = w.heap.size + 1 := by simp
  obtain ⟨⟨c0, c1, c2, c3, c4, c5⟩, c6, c7, c8, c9, c10, c11⟩ := hat0.cells
  have HB0 := Lib.hid hb0
  have HAT := Lib.hid hat0
  have HT := Lib.hid ht
  have HWF := Lib.hid wf
  have HTW := Lib.hid (ht.below hb0)
  obtain ⟨mc, hmc⟩ : ∃ c, c = meC m a cap := ⟨_, rfl⟩
  have HMC := Lib.hid hmc
  rw [← hmc] at c0 c1 c2 c3 c4 c5 c6 c7 c8 c9 c10 c11 hws HAT HTW HB0 ⊢
  clear hat0 ht wf hb0 hmc
  have hno : ∀ {p : Prop}, ¬ p → (false = true ↔ p) := fun h => ⟨fun e => (by cases e), fun e => absurd e h⟩
  go_enter Try.func18, Try.ntmps18
  go_wp2_with fail
  refine (mayM_any (a := a) (cap := cap) HTW.out HWF.out).mono ?_
  rintro e w1 ⟨r, hr, rfl, hb1⟩
  have hat1 := HAT.out.keep (hb1.block _ HAT.out.lt)
  have HB1 := Lib.hid (HB0.out.trans (hb1.mono (by omega)))
  have HR := Lib.hid hr
  have HAT1 := Lib.hid hat1
  have hz1 := hb1.size
  clear hr hb1 c0 c1 c2 c3 c4 c5 c6 c7 c8 c9 c10 c11 hat1
  obtain ⟨⟨c0, c1, c2, c3, c4, c5⟩, c6, c7, c8, c9, c10, c11⟩ := HAT1.out.cells
  cases r
  · go_wp2_with fail
    go_ret
    exact ⟨false, hno (fun h => by have := HR.out.2 h.1; cases this), rfl, HB1.out⟩
  clear c1 c2 c3 c4 c5 c6 c7 c8 c9 c10 c11
  go_wp2_with fail
  refine (has_any m.id _).mono ?_
  rintro e w2 ⟨r, hr, rfl, rfl⟩
  have HR2 := Lib.hid hr
  clear hr
  cases r
  · go_wp2_with fail
    go_ret
    exact ⟨false, hno (fun h => by have := HR2.out.2 h.2.1; cases this), rfl, HB1.out⟩
  have HM := Lib.hid (And.intro (HR.out.1 (by trivial)) (HR2.out.1 (by trivial)))
  by_cases h1 : 1 ≤ ch
  case neg =>
    have H1 := Lib.hid h1
    go_wp2_with fail
    go_ret
    exact ⟨false, hno (fun h => by have := h.2.2.1.1; have := H1.out; omega), by first | rfl | simp [*], HB1.out⟩
  by_cases h2 : ch ≤ 65535
  case neg =>
    have H1 := Lib.hid h2
    go_wp2_with fail
    go_ret
    exact ⟨false, hno (fun h => by have := h.2.2.1.2; have := H1.out; omega), by first | rfl | simp [*], HB1.out⟩
  by_cases h3 : 8 ≤ most
  case neg =>
    have H1 := Lib.hid h3
    go_wp2_with fail
    go_ret
    exact ⟨false, hno (fun h => by have := h.2.2.2.1.1; have := H1.out; omega), by first | rfl | simp [*], HB1.out⟩
  by_cases h4 : most ≤ 4096
  case neg =>
    have H1 := Lib.hid h4
    go_wp2_with fail
    go_ret
    exact ⟨false, hno (fun h => by have := h.2.2.2.1.2; have := H1.out; omega), by first | rfl | simp [*], HB1.out⟩
  by_cases h5 : (n : Int) ≤ 65536
  case neg =>
    have H1 := Lib.hid h5
    go_wp2_with fail
    go_ret
    exact ⟨false, hno (fun h => by have := h.2.2.2.2; have := H1.out; omega), by first | rfl | simp [*], HB1.out⟩
  have H1 := Lib.hid (And.intro (And.intro h1 h2) (And.intro (And.intro h3 h4) h5))
  go_wp2_with fail
  go_ret
  exact ⟨true, ⟨fun _ => ⟨HM.out.1, HM.out.2, H1.out.1, H1.out.2.1, by have := H1.out.2.2; omega⟩, fun _ => rfl⟩, by first | rfl | simp [*], HB1.out⟩

end Go.Proofs.Ytadgdglinnelhaa

namespace Go.Proofs.Ytadgdglinnelhaa
open Go.RowKit
set_option linter.unusedVariables false
variable {B : Nat}

theorem ownsRow_mono {w : World} {base base' : Nat} {t : TypeId} {n k : Nat} {v : Value} {xs : List Value} (h : w.ownsRow base t n v k xs) (hb : base' ≤ base) : w.ownsRow base' t n v k xs := by
  refine ⟨h.1, ?_⟩
  rcases h.2 with h1 | ⟨g, cap, cur, hv, hbg, r⟩
  · exact .inl h1
  · exact .inr ⟨g, cap, cur, hv, by omega, r⟩

/-- a message's frames. -/
def cutF (ch : Int) (m : Me) (props : List It) (body : List UInt8) (most : Nat) : List Fr := ⟨1, ch, putM m⟩ :: ⟨2, ch, be 8 body.length ++ putT props⟩ :: bodyF ch most body
theorem cutF_length (ch : Int) (m : Me) (props : List It) (body : List UInt8) (most : Nat) : (cutF ch m props body most).length = 2 + (body.length + most - 1) / most := by
  simp [cutF]; omega

/-- a call that has content has no table, and few bytes. -/
theorem has_parts {id : Int} (h : Has id) : ∃ l, partsOf id = some l ∧ .a ∉ l ∧ l.length ≤ 5 := by
  rcases h with rfl | rfl | rfl | rfl <;> exact ⟨_, rfl, by decide, by decide⟩
theorem has_good {m : Me} (hm : MayM m) (hh : Has m.id) (wf : m.Wf) : Good m ∧ m.args = [] ∧ (putM m).length ≤ 2000 := by
  obtain ⟨l, hl, ha, hn⟩ := has_parts hh
  have ⟨h1, h2⟩ := (mayM_iff hl).1 hm
  have h0 : m.args = [] := h2 .a ha
  refine ⟨⟨hm, wf, by rw [h0]; decide⟩, h0, ?_⟩
  have h3 : ∀ q : List Pt, (∀ p ∈ q, m.MayP p ∧ p ≠ .a) → (encL m q).length ≤ 256 * q.length := by
    intro q
    induction q with
    | nil => intro _; simp [encL]
    | cons p r ih =>
      intro h
      have h3 := putTlen m p (h p (by simp)).1 (h p (by simp)).2
      have h4 := ih fun z hz => h z (by simp [hz])
      rw [encL, List.length_append, List.length_cons]
      omega
  have h4 := h3 l (fun p hp => ⟨h1 p hp, fun e => ha (e ▸ hp)⟩)
  rw [putM_eq hl, List.length_append, headM_length]
  omega
theorem pcs_le {most : Nat} {l : List UInt8} {d : List UInt8} (h : d ∈ pcs most l) : d.length ≤ most := by
  simp only [pcs, List.mem_map] at h
  obtain ⟨i, _, rfl⟩ := h
  rw [List.length_take]; omega
theorem cutF_may {ch : Int} {m : Me} {props : List It} {body : List UInt8} {most : Nat} (hc : 1 ≤ ch ∧ ch ≤ 65535) (hm : (putM m).length ≤ 2000) (hp : (putT props).length ≤ 3000) (hq : most ≤ 4096) : ∀ f ∈ cutF ch m props body most, MayF f := by
  have hk : ∀ (k : Int) (d : List UInt8), KindOk k → ¬ k = 8 → d.length ≤ 4096 → MayF ⟨k, ch, d⟩ := fun k d h1 h2 h3 =>
    ⟨h1, .inr ⟨h2, by show 0 ≤ ch; omega, by show ch ≤ 65535; omega⟩, .inr ⟨h2, by show (0 : Int) ≤ (d.length : Int); omega, by show (d.length : Int) ≤ 4096; omega⟩⟩
  intro f hf
  simp only [cutF, List.mem_cons, bodyF, List.mem_map] at hf
  rcases hf with rfl | rfl | ⟨d, hd, rfl⟩
  · exact hk 1 _ (.inl rfl) (by decide) (by omega)
  · exact hk 2 _ (.inr (.inl rfl)) (by decide) (by rw [List.length_append, be_length]; omega)
  · exact hk 3 _ (.inr (.inr (.inl rfl))) (by decide) (by have := pcs_le hd; omega)

end Go.Proofs.Ytadgdglinnelhaa

namespace Go.Proofs.Ytadgdglinnelhaa
open Go.RowKit
set_option linter.unusedVariables false
variable {B : Nat}

/-- bytes of the call's own as a frame's data. -/
theorem Buf.fzok {w w' : World} {base : Nat} {k ch : Int} {a : Option Addr} {N c : Nat} {l : List UInt8} {row : Option Nat} (h : Buf w base (.slice a N c) l) (hN : N = l.length) (hb : ∀ g, g < w.heap.size → base ≤ g → w'.heap[g]? = w.heap[g]?) (hz : w.heap.size ≤ w'.heap.size)
    (hr : ∀ g, row = some g → w.heap.size ≤ g ∨ g < base) (hl : N ≤ c) (hm : c ≤ maxLen) : FZOk row w' ((⟨k, ch, l⟩, (a, c)) : FZ) := by
  subst hN
  refine ⟨fun h0 => ?_, hl, hm⟩
  obtain ⟨g, cg, he, hg, hbb⟩ := h.bytes1 h0
  obtain ⟨rfl, -, rfl⟩ := Value.slice.inj he
  have hlt := hbb.lt
  obtain ⟨b, o, he2, hlt2, hcc⟩ := (hbb.keep (hb g hlt hg)).at h0
  cases he2
  exact ⟨g, 0, rfl, hlt2, fun e => (by rcases hr g e with h1 | h1 <;> omega), hcc⟩

/-- what Cut answers. -/
def CutR (ch : Int) (m : Me) (props : List It) (body : List UInt8) (most : Int) (w : World) (e : Ending) (w' : World) : Prop :=
  Below w.heap.size w w' ∧ ((e = .returned (.tuple #[.slice none 0 0, .int .i64 1]) ∧ (¬ MayC ch m body.length most ∨ ¬ MayT 1 props)) ∨
    (e = .returned (.tuple #[.slice none 0 0, .int .i64 502]) ∧ MayC ch m body.length most ∧ MayT 1 props ∧ 3000 < (putT props).length) ∨
    (MayC ch m body.length most ∧ MayT 1 props ∧ (putT props).length ≤ 3000 ∧ ∃ a cap, e = .returned (.tuple #[.slice a (cutF ch m props body most.toNat).length cap, .int .i64 0]) ∧ FrsAt w' a cap (cutF ch m props body most.toNat)))

set_option maxRecDepth 100000 in
set_option maxHeartbeats 8000000 in
theorem cut_any {w : World} {m : Me} {a : Option Addr} {cap : Nat} (ht : Tb w a cap m.args) (wf : m.Wf) {props : List It} {pa : Option Addr} {pcap : Nat} (hp : Tb w pa pcap props) (ch : Int) (ba : Option Addr) (bc : Nat) (body : List UInt8) (hbl : body.length ≤ bc) (hbc : bc ≤ maxLen)
    (hat : BytesAt w.heap.size w ba body) (most : Int) :
    Calls Try.prog 9 #[.int .i64 ch, .agg (meC m a cap), .slice pa props.length pcap, .slice ba body.length bc, .int .i64 most] w (CutR ch m props body most w) := by
  have hat0 : MeAt (w.alloc (.cells (meC m a cap) 25)) w.heap.size m a cap := heap_alloc_new w _
  have hb0 : Below w.heap.size w (w.alloc (.cells (meC m a cap) 25)) := (Below.refl _ _).alloc (Nat.le_refl _) _
  have hws : (w.alloc (.cells (meC m a cap) 25)).heap.size = w.heap.size + 1 := by simp
  obtain ⟨⟨c0, c1, c2, c3, c4, c5⟩, c6, c7, c8, c9, c10, c11⟩ := hat0.cells
  have HB0 := Lib.hid hb0
  have HAT := Lib.hid hat0
  have HT := Lib.hid ht
  have HPT := Lib.hid hp
  have HWF := Lib.hid wf
  have HTW := Lib.hid (ht.below hb0)
  have HBA := Lib.hid hat
  have HBC := Lib.hid hbc
  unfold maxLen at hbc
  obtain ⟨mc, hmc⟩ : ∃ c, c = meC m a cap := ⟨_, rfl⟩
  have HMC := Lib.hid hmc
  rw [← hmc] at c0 c1 c2 c3 c4 c5 c6 c7 c8 c9 c10 c11 hws HAT HTW HB0 ⊢
  clear hat0 ht wf hb0 hmc hp hat
  go_enter Try.func9, Try.ntmps9
  go_wp2_with fail
  refine (mayCut_any (m := m) (a := a) (cap := cap) HTW.out HWF.out ch ba body.length bc most).mono ?_
  rintro e w1 ⟨r, hr, rfl, hb1⟩
  have hat1 := HAT.out.keep (hb1.block _ HAT.out.lt)
  have HB1 := Lib.hid (HB0.out.trans (hb1.mono (by omega)))
  have HR := Lib.hid hr
  have HAT1 := Lib.hid hat1
  have hz1 := hb1.size
  clear hr hb1 c0 c1 c2 c3 c4 c5 c6 c7 c8 c9 c10 c11 hat1
  obtain ⟨⟨c0, c1, c2, c3, c4, c5⟩, c6, c7, c8, c9, c10, c11⟩ := HAT1.out.cells
  cases r
  · go_wp2_with fail
    go_ret2
    exact ⟨HB1.out, .inl ⟨rfl, .inl fun h => by have := HR.out.2 h; cases this⟩⟩
  have hmay := HR.out.1 rfl
  obtain ⟨q, rfl⟩ : ∃ q : Nat, most = q := ⟨most.toNat, by have := hmay.2.2.2.1; omega⟩
  obtain ⟨hgood, hargs, hml⟩ := has_good hmay.1 hmay.2.1 HWF.out
  have HMAY := Lib.hid hmay
  have HGOOD := Lib.hid hgood
  have HML := Lib.hid hml
  clear hmay hgood hargs hml
  have HT1 := Lib.hid (HT.out.below HB1.out)
  go_wp2_with fail
  refine (putM_any (m := m) (a := a) (cap := cap) HT1.out HWF.out).mono ?_
  intro e w2 h
  obtain ⟨hb2, g2, k2, rfl, hg2, hbs2⟩ := put_good HGOOD.out h
  have HB2 := Lib.hid (HB1.out.trans (hb2.mono HB1.out.size))
  have HBS2 := Lib.hid hbs2
  clear h hb2 hbs2 c0 c1 c2 c3 c4 c5 c6 c7 c8 c9 c10 c11
  go_wp2_with fail
  refine (put_any w2 (HPT.out.below HB2.out)).mono ?_
  rintro e w3 ⟨hb3, h⟩
  have HBS3 := Lib.hid (HBS2.out.below hb3)
  have HB3 := Lib.hid (HB2.out.trans (hb3.mono HB2.out.size))
  clear hb3
  rcases h with ⟨hn, rfl⟩ | ⟨hm, h3, rfl⟩ | ⟨hm, h3, v3, rfl, hv3⟩
  · have HN := Lib.hid hn
    clear hn
    go_wp2_with fail
    go_ret2
    exact ⟨HB3.out, .inl ⟨rfl, .inr HN.out⟩⟩
  · have HN := Lib.hid (And.intro hm h3)
    clear hm h3
    go_wp2_with fail
    go_ret2
    exact ⟨HB3.out, .inr (.inl ⟨rfl, HMAY.out, HN.out.1, HN.out.2⟩)⟩
  have HN := Lib.hid (And.intro hm h3)
  obtain ⟨n3, g3, k3, hn3, rfl, hg3, hbs3⟩ : ∃ (n3 g3 k3 : Nat), n3 = (putT props).length ∧ v3 = .slice (some ⟨g3, 0, none⟩) n3 k3 ∧ w2.heap.size ≤ g3 ∧ Bytes1 w3 g3 k3 (putT props) := by
    obtain ⟨g, c, h1, h2, h3⟩ := hv3.bytes1 (by rw [putT_length]; omega)
    exact ⟨_, g, c, rfl, h1, h2, h3⟩
  have hb6 : body.length ≤ 65536 := HMAY.out.2.2.2.2
  have hu : IntKind.u64.wrap (body.length : Int) = (body.length : Int) := by rw [IntKind.wrap_u64]; omega
  have HP3 := Lib.hid hbs3
  have HN3 := Lib.hid hn3
  have hn33 : n3 ≤ 3000 := by omega
  clear hm h3 hv3 hbs3 hn3
  obtain ⟨N2, hN2⟩ : ∃ N, N = (putM m).length := ⟨_, rfl⟩
  rw [← hN2]
  have HN2 := Lib.hid hN2
  clear hN2
  go_wp2_with fail
  refine (putNum_any w3.heap.size (.slice none 0 0) [] body.length 8 (by omega) (by decide) w3 (Buf.nil _ _) (Nat.le_refl _) (by simp)).mono ?_
  rintro e w4 ⟨v4, rfl, hb4, hon4⟩
  rw [List.nil_append] at hb4
  have hbel4 := hon4.below (Buf.nil w3 w3.heap.size) (Nat.le_refl _)
  have HB4 := Lib.hid (HB3.out.trans (hbel4.mono HB3.out.size))
  have HP4 := Lib.hid (HP3.out.below hbel4)
  have HM4 := Lib.hid (HBS3.out.below hbel4)
  have HV4 := Lib.hid hb4
  have hz4 := hbel4.size
  have hgl2 : g2 < w3.heap.size := HBS3.out.lt
  clear hb4 hon4 hbel4
  go_wp2_with (at_builtin; refine put_bytes (base := w3.heap.size) (l := be 8 body.length) (m := putT props) rfl (.tmp 47) (.tmp 48) rfl HV4.out hz4 HP4.out.at (by rw [← HN3.out]; simp; omega) HN3.out rfl rfl ?_; intro v5 w5 hb5 hon5; obtain ⟨N5, a5, c5, hN5, rfl, hl5, hm5⟩ := hb5.form2; have HV5 := Lib.hid hb5; have HN5 := Lib.hid hN5; have hbel5 := hon5.below HV4.out hz4; have HB5 := Lib.hid (HB4.out.trans (hbel5.mono HB3.out.size)); have HM5 := Lib.hid (HM4.out.keep (hbel5.block g2 hgl2)); have HM55 := Lib.hid (And.intro hl5 hm5); have hz5 := hbel5.size; clear hb5 hon5 hbel5 hN5 hl5 hm5)
  have hown6 : (w5.alloc (.cells #[.int .i64 1, .int .i64 ch, .slice (some ⟨g2, 0, none⟩) N2 k2, .int .i64 2, .int .i64 ch, .slice a5 N5 c5] 36)).ownsRow w.heap.size 36 3 (.slice (some ⟨w5.heap.size, 0, none⟩) 2 2) 2 [.int .i64 1, .int .i64 ch, .slice (some ⟨g2, 0, none⟩) N2 k2, .int .i64 2, .int .i64 ch, .slice a5 N5 c5] :=
    World.ownsRow_lit w5 _ 2 HB5.out.size (by decide) (by simp)
  have HOWN6 := Lib.hid hown6
  have hb6' : Below w5.heap.size w5 (w5.alloc (.cells #[.int .i64 1, .int .i64 ch, .slice (some ⟨g2, 0, none⟩) N2 k2, .int .i64 2, .int .i64 ch, .slice a5 N5 c5] 36)) := (Below.refl _ _).alloc (Nat.le_refl _) _
  have hz6 : (w5.alloc (.cells #[.int .i64 1, .int .i64 ch, .slice (some ⟨g2, 0, none⟩) N2 k2, .int .i64 2, .int .i64 ch, .slice a5 N5 c5] 36)).heap.size = w5.heap.size + 1 := by simp
  generalize w5.alloc (.cells #[.int .i64 1, .int .i64 ch, .slice (some ⟨g2, 0, none⟩) N2 k2, .int .i64 2, .int .i64 ch, .slice a5 N5 c5] 36) = w6 at *
  obtain ⟨zs0, hzs0⟩ : ∃ zs0 : List FZ, zs0 = [(⟨1, ch, putM m⟩, (some ⟨g2, 0, none⟩, k2)), (⟨2, ch, be 8 body.length ++ putT props⟩, (a5, c5))] := ⟨_, rfl⟩
  have hown : w6.ownsRow w.heap.size 36 3 (.slice (some ⟨w5.heap.size, 0, none⟩) 2 2) zs0.length (zs0.flatMap fzc) := by
    have h := HOWN6.out
    rw [HN2.out, HN5.out] at h
    rw [hzs0]
    exact h
  have hgl5 : g2 < w5.heap.size := HM5.out.lt
  have hzok : ∀ z ∈ zs0, FZOk (Value.slice (some ⟨w5.heap.size, 0, none⟩) 2 2).ownBlock w6 z := by
    intro z hz
    rw [hzs0] at hz
    simp only [List.mem_cons, List.not_mem_nil, or_false] at hz
    rcases hz with rfl | rfl
    · have hb2 := HM5.out.below hb6'
      refine ⟨fun h0 => ?_, hb2.len, hb2.max⟩
      obtain ⟨b, o, he2, hlt2, hcc⟩ := hb2.at h0
      cases he2
      refine ⟨g2, 0, rfl, hlt2, fun e => ?_, hcc⟩
      have : w5.heap.size = g2 := by simpa [Value.ownBlock] using e
      omega
    · refine Buf.fzok HV5.out HN5.out (fun g hg _ => hb6'.block g hg) hb6'.size (fun g e => ?_) HM55.out.1 HM55.out.2
      have : w5.heap.size = g := by simpa [Value.ownBlock] using e
      omega
  have HB6 := Lib.hid (HB5.out.trans (hb6'.mono HB5.out.size))
  refine (body_any (B := w.heap.size) w.heap.size (.slice (some ⟨w5.heap.size, 0, none⟩) 2 2) zs0 ch ba bc body q (by have := HMAY.out.2.2.2.1.1; omega) (by have := HMAY.out.2.2.2.1.2; omega) hb6 hbl HBC.out w6 hown hzok HB6.out.size (by rw [hzs0]; simp) (Nat.le_refl _) (HBA.out.under HB6.out)).mono ?_
  rintro e w7 ⟨lv, zs, rfl, hmap, hown7, hz7, hbel7⟩
  have hcut : zs.map (·.1) = cutF ch m props body q := by rw [hmap, hzs0]; rfl
  obtain ⟨a7, c7, rfl, hfr⟩ := frsAt_row hown7 hz7
  rw [hcut] at hfr ⊢
  have HB7 := Lib.hid (HB6.out.trans hbel7)
  have HFR := Lib.hid hfr
  have hc8 := contains_any a7 c7 _ w7 hfr (cutF_may HMAY.out.2.2.1 HML.out HN.out.2 (by have := HMAY.out.2.2.2.1.2; omega))
  obtain ⟨N7, hN7⟩ : ∃ N, N = (cutF ch m props body q).length := ⟨_, rfl⟩
  rw [← hN7] at hc8 ⊢
  have HC8 := Lib.hid hc8
  have HN7 := Lib.hid hN7
  clear hN7 hc8 hfr hown7 hz7 hbel7 hcut hmap hown hzok hb6' HOWN6
  go_wp2_with fail
  refine HC8.out.mono ?_
  rintro e w8 ⟨rfl, hb8⟩
  have HB8 := Lib.hid hb8
  clear hb8
  go_wp2_with fail
  go_ret2
  refine ⟨HB7.out.trans (HB8.out.mono HB7.out.size), .inr (.inr ⟨HMAY.out, HN.out.1, HN.out.2, a7, c7, ?_, HFR.out.below HB8.out⟩)⟩
  rw [HN7.out]
  rfl

end Go.Proofs.Ytadgdglinnelhaa

namespace Go.Proofs.Ytadgdglinnelhaa
open Go.RowKit
set_option linter.unusedVariables false
variable {B : Nat}

/-- other blocks than these are as they were. -/
structure Kept (bs : List Nat) (w w' : World) : Prop where
  os : w'.os = w.os
  tape : w'.tape = w.tape
  output : w'.output = w.output
  size : w.heap.size ≤ w'.heap.size
  block : ∀ k, k < w.heap.size → k ∉ bs → w'.heap[k]? = w.heap[k]?
theorem Kept.refl (bs : List Nat) (w : World) : Kept bs w w := ⟨rfl, rfl, rfl, Nat.le_refl _, fun _ _ _ => rfl⟩
theorem Kept.of_below {bs : List Nat} {w w' : World} (h : Below w.heap.size w w') : Kept bs w w' := ⟨h.os, h.tape, h.output, h.size, fun k hk _ => h.block k hk⟩
theorem Kept.trans {bs cs : List Nat} {a b c : World} (h : Kept bs a b) (k : Kept cs b c) (hc : ∀ x ∈ cs, x ∈ bs ∨ a.heap.size ≤ x) : Kept bs a c :=
  ⟨k.os.trans h.os, k.tape.trans h.tape, k.output.trans h.output, Nat.le_trans h.size k.size, fun i hi hn => (k.block i (Nat.lt_of_lt_of_le hi h.size) (fun hx => by rcases hc i hx with h1 | h1; exact hn h1; omega)).trans (h.block i hi hn)⟩
theorem Kept.below {bs : List Nat} {B : Nat} {w w' : World} (h : Kept bs w w') (hB : B ≤ w.heap.size) (hb : ∀ b ∈ bs, B ≤ b) : Below B w w' :=
  ⟨h.os, h.tape, h.output, h.size, fun k hk => h.block k (by omega) (fun hx => by have := hb k hx; omega)⟩
theorem Kept.grown {bs : List Nat} {a w w' : World} {row : Option Nat} (h : Kept bs a w) (hg : w.grownBy w' row) (hr : ∀ k, row = some k → k ∈ bs ∨ a.heap.size ≤ k) : Kept bs a w' :=
  ⟨hg.os.trans h.os, hg.tape.trans h.tape, hg.output.trans h.output, Nat.le_trans h.size hg.size, fun k hk hn => (hg.block k (Nat.lt_of_lt_of_le hk h.size) (fun e => by rcases hr k e.symm with h1 | h1; exact hn h1; omega)).trans (h.block k hk hn)⟩
theorem Kept.set {bs : List Nat} {a w : World} (h : Kept bs a w) {g : Nat} (hg : g ∈ bs) (i : Nat) (u : Value) : Kept bs a (w.setCell ⟨g, i, none⟩ u) := h.grown (set_grown w g i u) (fun k e => by cases e; exact .inl hg)
theorem Kept.alloc {bs : List Nat} {a w : World} (h : Kept bs a w) (o : Obj) : Kept bs a (w.alloc o) := h.grown (World.grownBy_alloc w o none) (fun k e => by cases e)

/-- what a join holds. -/
structure JS where
  st : Nat
  m : Me
  props : List UInt8
  body : List UInt8
  left : Nat
def JS.none : JS := ⟨0, Me.of 0, [], [], 0⟩
def jC (ch : Int) (J : JS) (ma : Option Addr) (mc : Nat) (pv bv : Value) : Array Value :=
  #[.int .i64 ch, .int .i64 J.st, .int .i64 J.m.id, .string J.m.name, .string J.m.typ, .string J.m.ex, .string J.m.key, .string J.m.text, .int .i64 J.m.code, .int .i64 J.m.count, .int .u64 J.m.tag, .bool J.m.flag, .bool J.m.back, .slice ma J.m.args.length mc, pv, bv, .int .i64 J.left]
/-- the join in block g; bs: its blocks. -/
structure JAt (w : World) (g : Nat) (ch : Int) (J : JS) (bs : List Nat) (ma : Option Addr) (mc : Nat) (pv bv : Value) : Prop where
  at_ : w.heap[g]? = some (.cells (jC ch J ma mc pv bv) 65 (0, 0))
  mem : g ∈ bs
  bnd : ∀ b ∈ bs, b < w.heap.size
  args : J.m.args = []
  cap : mc ≤ maxLen
  pbuf : Buf w 0 pv J.props
  bbuf : Buf w 0 bv J.body
  pown : ∀ k, pv.ownBlock = some k → k ∈ bs ∧ k ≠ g
  bown : ∀ k, bv.ownBlock = some k → k ∈ bs ∧ k ≠ g ∧ pv.ownBlock ≠ some k

theorem jat_cells {w : World} {g : Nat} {ch : Int} {J : JS} {ma : Option Addr} {mc : Nat} {pv bv : Value} (h : w.heap[g]? = some (.cells (jC ch J ma mc pv bv) 65 (0, 0))) :
    w.cell? ⟨g, 0, none⟩ = some (.int .i64 ch) ∧ w.cell? ⟨g, 1, none⟩ = some (.int .i64 J.st) ∧ w.cell? ⟨g, 2, none⟩ = some (.int .i64 J.m.id) ∧ w.cell? ⟨g, 3, none⟩ = some (.string J.m.name) ∧ w.cell? ⟨g, 4, none⟩ = some (.string J.m.typ) ∧ w.cell? ⟨g, 5, none⟩ = some (.string J.m.ex) ∧ w.cell? ⟨g, 6, none⟩ = some (.string J.m.key) ∧ w.cell? ⟨g, 7, none⟩ = some (.string J.m.text) ∧ w.cell? ⟨g, 8, none⟩ = some (.int .i64 J.m.code) ∧ w.cell? ⟨g, 9, none⟩ = some (.int .i64 J.m.count) ∧ w.cell? ⟨g, 10, none⟩ = some (.int .u64 J.m.tag) ∧ w.cell? ⟨g, 11, none⟩ = some (.bool J.m.flag) ∧ w.cell? ⟨g, 12, none⟩ = some (.bool J.m.back) ∧ w.cell? ⟨g, 13, none⟩ = some (.slice ma J.m.args.length mc) ∧ w.cell? ⟨g, 14, none⟩ = some (pv) ∧ w.cell? ⟨g, 15, none⟩ = some (bv) ∧ w.cell? ⟨g, 16, none⟩ = some (.int .i64 J.left) := by
  refine ⟨?_, ?_, ?_, ?_, ?_, ?_, ?_, ?_, ?_, ?_, ?_, ?_, ?_, ?_, ?_, ?_, ?_⟩ <;> (rw [cell_of_row w _ _ _ _ _ h]; rfl)
theorem jat_frozen {w : World} {g : Nat} {cs : Array Value} {t : TypeId} (h : w.heap[g]? = some (.cells cs t (0, 0))) (i : Nat) : w.frozen? ⟨g, i, none⟩ = false := by simp [World.frozen?, h]
theorem JAt.lt {w : World} {g : Nat} {ch : Int} {J : JS} {bs : List Nat} {ma : Option Addr} {mc : Nat} {pv bv : Value} (h : JAt w g ch J bs ma mc pv bv) : g < w.heap.size := (Array.getElem?_eq_some_iff.1 h.at_).1
theorem Buf.stay {w w' : World} {base : Nat} {v : Value} {l : List UInt8} (h : Buf w base v l) (hk : ∀ k, v.ownBlock = some k → w'.heap[k]? = w.heap[k]?) : Buf w' base v l := by
  refine ⟨h.1, ?_⟩
  rcases h.2 with h1 | ⟨g, cap, cur, rfl, hbg, hg, r⟩
  · exact .inl h1
  · exact .inr ⟨g, cap, cur, rfl, hbg, (hk g rfl).trans hg, r⟩
theorem JAt.keep {w w' : World} {g : Nat} {ch : Int} {J : JS} {bs : List Nat} {ma : Option Addr} {mc : Nat} {pv bv : Value} (h : JAt w g ch J bs ma mc pv bv) (hk : ∀ b ∈ bs, w'.heap[b]? = w.heap[b]?) (hz : w.heap.size ≤ w'.heap.size) : JAt w' g ch J bs ma mc pv bv :=
  ⟨(hk g h.mem).trans h.at_, h.mem, fun b hb => Nat.lt_of_lt_of_le (h.bnd b hb) hz, h.args, h.cap, h.pbuf.stay fun k e => hk k (h.pown k e).1, h.bbuf.stay fun k e => hk k (h.bown k e).1, h.pown, h.bown⟩
theorem JAt.below {w w' : World} {g : Nat} {ch : Int} {J : JS} {bs : List Nat} {ma : Option Addr} {mc : Nat} {pv bv : Value} (h : JAt w g ch J bs ma mc pv bv) (hb : Below w.heap.size w w') : JAt w' g ch J bs ma mc pv bv := h.keep (fun b hx => hb.block b (h.bnd b hx)) hb.size
theorem Buf.lt {w : World} {base : Nat} {v : Value} {l : List UInt8} (h : Buf w base v l) (k : Nat) (e : v.ownBlock = some k) : k < w.heap.size := (World.ownsRow.lt h k e).2

set_option maxRecDepth 100000 in
/-- all cells of a join's block are written. -/
theorem set17 {w : World} {g : Nat} {t : TypeId} {u0 u1 u2 u3 u4 u5 u6 u7 u8 u9 u10 u11 u12 u13 u14 u15 u16 : Value} (h : w.heap[g]? = some (.cells #[u0, u1, u2, u3, u4, u5, u6, u7, u8, u9, u10, u11, u12, u13, u14, u15, u16] t (0, 0))) (v0 v1 v2 v3 v4 v5 v6 v7 v8 v9 v10 v11 v12 v13 v14 v15 v16 : Value) :
    (((((((((((((((((w.setCell ⟨g, 0, none⟩ v0).setCell ⟨g, 1, none⟩ v1).setCell ⟨g, 2, none⟩ v2).setCell ⟨g, 3, none⟩ v3).setCell ⟨g, 4, none⟩ v4).setCell ⟨g, 5, none⟩ v5).setCell ⟨g, 6, none⟩ v6).setCell ⟨g, 7, none⟩ v7).setCell ⟨g, 8, none⟩ v8).setCell ⟨g, 9, none⟩ v9).setCell ⟨g, 10, none⟩ v10).setCell ⟨g, 11, none⟩ v11).setCell ⟨g, 12, none⟩ v12).setCell ⟨g, 13, none⟩ v13).setCell ⟨g, 14, none⟩ v14).setCell ⟨g, 15, none⟩ v15).setCell ⟨g, 16, none⟩ v16).heap[g]? = some (.cells #[v0, v1, v2, v3, v4, v5, v6, v7, v8, v9, v10, v11, v12, v13, v14, v15, v16] t (0, 0)) ∧ Kept [g] w (((((((((((((((((w.setCell ⟨g, 0, none⟩ v0).setCell ⟨g, 1, none⟩ v1).setCell ⟨g, 2, none⟩ v2).setCell ⟨g, 3, none⟩ v3).setCell ⟨g, 4, none⟩ v4).setCell ⟨g, 5, none⟩ v5).setCell ⟨g, 6, none⟩ v6).setCell ⟨g, 7, none⟩ v7).setCell ⟨g, 8, none⟩ v8).setCell ⟨g, 9, none⟩ v9).setCell ⟨g, 10, none⟩ v10).setCell ⟨g, 11, none⟩ v11).setCell ⟨g, 12, none⟩ v12).setCell ⟨g, 13, none⟩ v13).setCell ⟨g, 14, none⟩ v14).setCell ⟨g, 15, none⟩ v15).setCell ⟨g, 16, none⟩ v16) := by
  have hg : g ∈ [g] := by simp
  exact ⟨(set_heap (set_heap (set_heap (set_heap (set_heap (set_heap (set_heap (set_heap (set_heap (set_heap (set_heap (set_heap (set_heap (set_heap (set_heap (set_heap (set_heap h 0 v0) 1 v1) 2 v2) 3 v3) 4 v4) 5 v5) 6 v6) 7 v7) 8 v8) 9 v9) 10 v10) 11 v11) 12 v12) 13 v13) 14 v14) 15 v15) 16 v16).trans (by simp only [List.setIfInBounds_toArray, List.set_cons_zero, List.set_cons_succ]), ((((((((((((((((((Kept.refl [g] w).set hg 0 v0).set hg 1 v1).set hg 2 v2).set hg 3 v3).set hg 4 v4).set hg 5 v5).set hg 6 v6).set hg 7 v7).set hg 8 v8).set hg 9 v9).set hg 10 v10).set hg 11 v11).set hg 12 v12).set hg 13 v13).set hg 14 v14).set hg 15 v15).set hg 16 v16)⟩
theorem Kept.drew {bs : List Nat} {a w : World} (h : Kept bs a w) : Kept bs a w.drew := ⟨h.os, h.tape, h.output, h.size, h.block⟩

theorem new_any (ch : Int) (w : World) : Calls Try.prog 12 #[.int .i64 ch] w fun e w' => e = .returned (.pointer (some ⟨w.heap.size, 0, none⟩)) ∧ JAt w' w.heap.size ch JS.none [w.heap.size] none 0 (.slice none 0 0) (.slice none 0 0) ∧ Below w.heap.size w w' ∧ w'.heap.size = w.heap.size + 1 := by
  go_enter Try.func12, Try.ntmps12
  go_wp2_with fail
  go_ret
  refine ⟨rfl, ⟨heap_alloc_new w _, by simp, by simp, rfl, by decide, Buf.nil _ _, Buf.nil _ _, (fun k e => by cases e), (fun k e => by cases e)⟩, (Below.refl _ _).alloc (Nat.le_refl _) _, by simp⟩

end Go.Proofs.Ytadgdglinnelhaa
