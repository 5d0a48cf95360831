/-
  mayCut, walked.
  A message's frames, plain.
  Cut, walked.
  []byte(s) of a string; a string's part; bears; SameFrame, walked.
  the document's Parts, walked.
  The document's own answer: a number's bytes: carrefourref1's Big, walked.
  The document's own answer: carrefourref3's has, text, flag, walked.
  The document's own answer: a table's bytes: carrefourref3's putValue, PutTable, walked.
-/
import Derived.Test.YtjnnpgmgjdhfjaaQMDatxdcef
import Derived.Test.YtjnnpgmgjdhfjaaQMEndxdafb
import Derived.Test.YtjnnpgmgjdhfjaaQCLeafxefbf
import Derived.Lib.ConvBytes
import Derived.Laws.IdiomStrings
import Derived.Test.YtjnnpgmgjdhfjaaQOctDxbefc
import Derived.Deep.LoopGhost
import Derived.Deep.RegionHeld3
import Derived.Test.YtjnnpgmgjdhfjaaQGetxcbdf
import Derived.Test.YtjnnpgmgjdhfjaaQMPartsxffdf
namespace Go.Proofs.Ytjnnpgmgjdhfjaa
open Go.RowKit
set_option linter.unusedVariables false
variable {B : Nat}

/-- what may be cut. -/
def MayC (ch : Int) (m : Me) (n : Nat) (most : Int) : Prop := MayM m ∧ Has m.id ∧ (1 ≤ ch ∧ ch ≤ 65535) ∧ (8 ≤ most ∧ most ≤ 4096) ∧ n ≤ 65536

theorem meC_id (m : Me) (a : Option Addr) (cap : Nat) : (meC m a cap)[0]? = some (.int .i64 m.id) := rfl

set_option maxRecDepth 100000 in
set_option maxHeartbeats 4000000 in
theorem mayCut_any {w : World} {m : Me} {a : Option Addr} {cap : Nat} (ht : Tb w a cap m.args) (wf : m.Wf) (ch : Int) (ba : Option Addr) (n bc : Nat) (most : Int) :
    Calls Try.prog 18 #[.int .i64 ch, .agg (meC m a cap), .slice ba n bc, .int .i64 most] w (SaysB (MayC ch m n most) w) := by
  have hat0 : MeAt (w.alloc (.cells (meC m a cap) 25)) w.heap.size m a cap := heap_alloc_new w _
  have hb0 : Below w.heap.size w (w.alloc (.cells (meC m a cap) 25)) := (Below.refl _ _).alloc (Nat.le_refl _) _
  have hws : (w.alloc (.cells (meC m a cap) 25)).heap.size = w.heap.size + 1 := by simp
  obtain ⟨⟨c0, c1, c2, c3, c4, c5⟩, c6, c7, c8, c9, c10, c11⟩ := hat0.cells
  have HB0 := Lib.hid hb0
  have HAT := Lib.hid hat0
  have HT := Lib.hid ht
  have HWF := Lib.hid wf
  have HTW := Lib.hid (ht.below hb0)
  obtain ⟨mc, hmc⟩ : ∃ c, c = meC m a cap := ⟨_, rfl⟩
  have HMC := Lib.hid hmc
  rw [← hmc] at c0 c1 c2 c3 c4 c5 c6 c7 c8 c9 c10 c11 hws HAT HTW HB0 ⊢
  clear hat0 ht wf hb0 hmc
  have hno : ∀ {p : Prop}, ¬ p → (false = true ↔ p) := fun h => ⟨fun e => (by cases e), fun e => absurd e h⟩
  go_enter Try.func18, Try.ntmps18
  go_wp2_with fail
  refine (mayM_any (a := a) (cap := cap) HTW.out HWF.out).mono ?_
  rintro e w1 ⟨r, hr, rfl, hb1⟩
  have hat1 := HAT.out.keep (hb1.block _ HAT.out.lt)
  have HB1 := Lib.hid (HB0.out.trans (hb1.mono (by omega)))
  have HR := Lib.hid hr
  have HAT1 := Lib.hid hat1
  have hz1 := hb1.size
  clear hr hb1 c0 c1 c2 c3 c4 c5 c6 c7 c8 c9 c10 c11 hat1
  obtain ⟨⟨c0, c1, c2, c3, c4, c5⟩, c6, c7, c8, c9, c10, c11⟩ := HAT1.out.cells
  cases r
  · go_wp2_with fail
    go_ret
    exact ⟨false, hno (fun h => by have := HR.out.2 h.1; cases this), rfl, HB1.out⟩
  clear c1 c2 c3 c4 c5 c6 c7 c8 c9 c10 c11
  go_wp2_with fail
  refine (has_any m.id _).mono ?_
  rintro e w2 ⟨r, hr, rfl, rfl⟩
  have HR2 := Lib.hid hr
  clear hr
  cases r
  · go_wp2_with fail
    go_ret
    exact ⟨false, hno (fun h => by have := HR2.out.2 h.2.1; cases this), rfl, HB1.out⟩
  have HM := Lib.hid (And.intro (HR.out.1 (by trivial)) (HR2.out.1 (by trivial)))
  by_cases h1 : 1 ≤ ch
  case neg =>
    have H1 := Lib.hid h1
    go_wp2_with fail
    go_ret
    exact ⟨false, hno (fun h => by have := h.2.2.1.1; have := H1.out; omega), by first | rfl | simp [*], HB1.out⟩
  by_cases h2 : ch ≤ 65535
  case neg =>
    have H1 := Lib.hid h2
    go_wp2_with fail
    go_ret
    exact ⟨false, hno (fun h => by have := h.2.2.1.2; have := H1.out; omega), by first | rfl | simp [*], HB1.out⟩
  by_cases h3 : 8 ≤ most
  case neg =>
    have H1 := Lib.hid h3
    go_wp2_with fail
    go_ret
    exact ⟨false, hno (fun h => by have := h.2.2.2.1.1; have := H1.out; omega), by first | rfl | simp [*], HB1.out⟩
  by_cases h4 : most ≤ 4096
  case neg =>
    have H1 := Lib.hid h4
    go_wp2_with fail
    go_ret
    exact ⟨false, hno (fun h => by have := h.2.2.2.1.2; have := H1.out; omega), by first | rfl | simp [*], HB1.out⟩
  by_cases h5 : (n : Int) ≤ 65536
  case neg =>
    have H1 := Lib.hid h5
    go_wp2_with fail
    go_ret
    exact ⟨false, hno (fun h => by have := h.2.2.2.2; have := H1.out; omega), by first | rfl | simp [*], HB1.out⟩
  have H1 := Lib.hid (And.intro (And.intro h1 h2) (And.intro (And.intro h3 h4) h5))
  go_wp2_with fail
  go_ret
  exact ⟨true, ⟨fun _ => ⟨HM.out.1, HM.out.2, H1.out.1, H1.out.2.1, by have := H1.out.2.2; omega⟩, fun _ => rfl⟩, by first | rfl | simp [*], HB1.out⟩

end Go.Proofs.Ytjnnpgmgjdhfjaa

namespace Go.Proofs.Ytjnnpgmgjdhfjaa
open Go.RowKit
set_option linter.unusedVariables false
variable {B : Nat}

theorem ownsRow_mono {w : World} {base base' : Nat} {t : TypeId} {n k : Nat} {v : Value} {xs : List Value} (h : w.ownsRow base t n v k xs) (hb : base' ≤ base) : w.ownsRow base' t n v k xs := by
  refine ⟨h.1, ?_⟩
  rcases h.2 with h1 | ⟨g, cap, cur, hv, hbg, r⟩
  · exact .inl h1
  · exact .inr ⟨g, cap, cur, hv, by omega, r⟩

/-- a message's frames. -/
def cutF (ch : Int) (m : Me) (props : List It) (body : List UInt8) (most : Nat) : List Fr := ⟨1, ch, putM m⟩ :: ⟨2, ch, be 8 body.length ++ putT props⟩ :: bodyF ch most body
theorem cutF_length (ch : Int) (m : Me) (props : List It) (body : List UInt8) (most : Nat) : (cutF ch m props body most).length = 2 + (body.length + most - 1) / most := by
  simp [cutF]; omega

/-- a call that has content has no table, and few bytes. -/
theorem has_parts {id : Int} (h : Has id) : ∃ l, partsOf id = some l ∧ .a ∉ l ∧ l.length ≤ 5 := by
  rcases h with rfl | rfl | rfl | rfl <;> exact ⟨_, rfl, by decide, by decide⟩
theorem has_good {m : Me} (hm : MayM m) (hh : Has m.id) (wf : m.Wf) : Good m ∧ m.args = [] ∧ (putM m).length ≤ 2000 := by
  obtain ⟨l, hl, ha, hn⟩ := has_parts hh
  have ⟨h1, h2⟩ := (mayM_iff hl).1 hm
  have h0 : m.args = [] := h2 .a ha
  refine ⟨⟨hm, wf, by rw [h0]; decide⟩, h0, ?_⟩
  have h3 : ∀ q : List Pt, (∀ p ∈ q, m.MayP p ∧ p ≠ .a) → (encL m q).length ≤ 256 * q.length := by
    intro q
    induction q with
    | nil => intro _; simp [encL]
    | cons p r ih =>
      intro h
      have h3 := putTlen m p (h p (by simp)).1 (h p (by simp)).2
      have h4 := ih fun z hz => h z (by simp [hz])
      rw [encL, List.length_append, List.length_cons]
      omega
  have h4 := h3 l (fun p hp => ⟨h1 p hp, fun e => ha (e ▸ hp)⟩)
  rw [putM_eq hl, List.length_append, headM_length]
  omega
theorem pcs_le {most : Nat} {l : List UInt8} {d : List UInt8} (h : d ∈ pcs most l) : d.length ≤ most := by
  simp only [pcs, List.mem_map] at h
  obtain ⟨i, _, rfl⟩ := h
  rw [List.length_take]; omega
theorem cutF_may {ch : Int} {m : Me} {props : List It} {body : List UInt8} {most : Nat} (hc : 1 ≤ ch ∧ ch ≤ 65535) (hm : (putM m).length ≤ 2000) (hp : (putT props).length ≤ 3000) (hq : most ≤ 4096) : ∀ f ∈ cutF ch m props body most, MayF f := by
  have hk : ∀ (k : Int) (d : List UInt8), KindOk k → ¬ k = 8 → d.length ≤ 4096 → MayF ⟨k, ch, d⟩ := fun k d h1 h2 h3 =>
    ⟨h1, .inr ⟨h2, by show 0 ≤ ch; omega, by show ch ≤ 65535; omega⟩, .inr ⟨h2, by show (0 : Int) ≤ (d.length : Int); omega, by show (d.length : Int) ≤ 4096; omega⟩⟩
  intro f hf
  simp only [cutF, List.mem_cons, bodyF, List.mem_map] at hf
  rcases hf with rfl | rfl | ⟨d, hd, rfl⟩
  · exact hk 1 _ (.inl rfl) (by decide) (by omega)
  · exact hk 2 _ (.inr (.inl rfl)) (by decide) (by rw [List.length_append, be_length]; omega)
  · exact hk 3 _ (.inr (.inr (.inl rfl))) (by decide) (by have := pcs_le hd; omega)

end Go.Proofs.Ytjnnpgmgjdhfjaa

namespace Go.Proofs.Ytjnnpgmgjdhfjaa
open Go.RowKit
set_option linter.unusedVariables false
variable {B : Nat}

/-- bytes of the call's own as a frame's data. -/
theorem Buf.fzok {w w' : World} {base : Nat} {k ch : Int} {a : Option Addr} {N c : Nat} {l : List UInt8} {row : Option Nat} (h : Buf w base (.slice a N c) l) (hN : N = l.length) (hb : ∀ g, g < w.heap.size → base ≤ g → w'.heap[g]? = w.heap[g]?) (hz : w.heap.size ≤ w'.heap.size)
    (hr : ∀ g, row = some g → w.heap.size ≤ g ∨ g < base) (hl : N ≤ c) (hm : c ≤ maxLen) : FZOk row w' ((⟨k, ch, l⟩, (a, c)) : FZ) := by
  subst hN
  refine ⟨fun h0 => ?_, hl, hm⟩
  obtain ⟨g, cg, he, hg, hbb⟩ := h.bytes1 h0
  obtain ⟨rfl, -, rfl⟩ := Value.slice.inj he
  have hlt := hbb.lt
  obtain ⟨b, o, he2, hlt2, hcc⟩ := (hbb.keep (hb g hlt hg)).at h0
  cases he2
  exact ⟨g, 0, rfl, hlt2, fun e => (by rcases hr g e with h1 | h1 <;> omega), hcc⟩

/-- what Cut answers. -/
def CutR (ch : Int) (m : Me) (props : List It) (body : List UInt8) (most : Int) (w : World) (e : Ending) (w' : World) : Prop :=
  Below w.heap.size w w' ∧ ((e = .returned (.tuple #[.slice none 0 0, .int .i64 1]) ∧ (¬ MayC ch m body.length most ∨ ¬ MayT 1 props)) ∨
    (e = .returned (.tuple #[.slice none 0 0, .int .i64 502]) ∧ MayC ch m body.length most ∧ MayT 1 props ∧ 3000 < (putT props).length) ∨
    (MayC ch m body.length most ∧ MayT 1 props ∧ (putT props).length ≤ 3000 ∧ ∃ a cap, e = .returned (.tuple #[.slice a (cutF ch m props body most.toNat).length cap, .int .i64 0]) ∧ FrsAt w' a cap (cutF ch m props body most.toNat)))

set_option maxRecDepth 100000 in
set_option maxHeartbeats 8000000 in
theorem cut_any {w : World} {m : Me} {a : Option Addr} {cap : Nat} (ht : Tb w a cap m.args) (wf : m.Wf) {props : List It} {pa : Option Addr} {pcap : Nat} (hp : Tb w pa pcap props) (ch : Int) (ba : Option Addr) (bc : Nat) (body : List UInt8) (hbl : body.length ≤ bc) (hbc : bc ≤ maxLen)
    (hat : BytesAt w.heap.size w ba body) (most : Int) :
    Calls Try.prog 9 #[.int .i64 ch, .agg (meC m a cap), .slice pa props.length pcap, .slice ba body.length bc, .int .i64 most] w (CutR ch m props body most w) := by
  have hat0 : MeAt (w.alloc (.cells (meC m a cap) 25)) w.heap.size m a cap := heap_alloc_new w _
  have hb0 : Below w.heap.size w (w.alloc (.cells (meC m a cap) 25)) := (Below.refl _ _).alloc (Nat.le_refl _) _
  have hws : (w.alloc (.cells (meC m a cap) 25)).heap.size = w.heap.size + 1 := by simp
  obtain ⟨⟨c0, c1, c2, c3, c4, c5⟩, c6, c7, c8, c9, c10, c11⟩ := hat0.cells
  have HB0 := Lib.hid hb0
  have HAT := Lib.hid hat0
  have HT := Lib.hid ht
  have HPT := Lib.hid hp
  have HWF := Lib.hid wf
  have HTW := Lib.hid (ht.below hb0)
  have HBA := Lib.hid hat
  have HBC := Lib.hid hbc
  unfold maxLen at hbc
  obtain ⟨mc, hmc⟩ : ∃ c, c = meC m a cap := ⟨_, rfl⟩
  have HMC := Lib.hid hmc
  rw [← hmc] at c0 c1 c2 c3 c4 c5 c6 c7 c8 c9 c10 c11 hws HAT HTW HB0 ⊢
  clear hat0 ht wf hb0 hmc hp hat
  go_enter Try.func9, Try.ntmps9
  go_wp2_with fail
  refine (mayCut_any (m := m) (a := a) (cap := cap) HTW.out HWF.out ch ba body.length bc most).mono ?_
  rintro e w1 ⟨r, hr, rfl, hb1⟩
  have hat1 := HAT.out.keep (hb1.block _ HAT.out.lt)
  have HB1 := Lib.hid (HB0.out.trans (hb1.mono (by omega)))
  have HR := Lib.hid hr
  have HAT1 := Lib.hid hat1
  have hz1 := hb1.size
  clear hr hb1 c0 c1 c2 c3 c4 c5 c6 c7 c8 c9 c10 c11 hat1
  obtain ⟨⟨c0, c1, c2, c3, c4, c5⟩, c6, c7, c8, c9, c10, c11⟩ := HAT1.out.cells
  cases r
  · go_wp2_with fail
    go_ret2
    exact ⟨HB1.out, .inl ⟨rfl, .inl fun h => by have := HR.out.2 h; cases this⟩⟩
  have hmay := HR.out.1 rfl
  obtain ⟨q, rfl⟩ : ∃ q : Nat, most = q := ⟨most.toNat, by have := hmay.2.2.2.1; omega⟩
  obtain ⟨hgood, hargs, hml⟩ := has_good hmay.1 hmay.2.1 HWF.out
  have HMAY := Lib.hid hmay
  have HGOOD := Lib.hid hgood
  have HML := Lib.hid hml
  clear hmay hgood hargs hml
  have HT1 := Lib.hid (HT.out.below HB1.out)
  go_wp2_with fail
  refine (putM_any (m := m) (a := a) (cap := cap) HT1.out HWF.out).mono ?_
  intro e w2 h
  obtain ⟨hb2, g2, k2, rfl, hg2, hbs2⟩ := put_good HGOOD.out h
  have HB2 := Lib.hid (HB1.out.trans (hb2.mono HB1.out.size))
  have HBS2 := Lib.hid hbs2
  clear h hb2 hbs2 c0 c1 c2 c3 c4 c5 c6 c7 c8 c9 c10 c11
  go_wp2_with fail
  refine (put_any w2 (HPT.out.below HB2.out)).mono ?_
  rintro e w3 ⟨hb3, h⟩
  have HBS3 := Lib.hid (HBS2.out.below hb3)
  have HB3 := Lib.hid (HB2.out.trans (hb3.mono HB2.out.size))
  clear hb3
  rcases h with ⟨hn, rfl⟩ | ⟨hm, h3, rfl⟩ | ⟨hm, h3, v3, rfl, hv3⟩
  · have HN := Lib.hid hn
    clear hn
    go_wp2_with fail
    go_ret2
    exact ⟨HB3.out, .inl ⟨rfl, .inr HN.out⟩⟩
  · have HN := Lib.hid (And.intro hm h3)
    clear hm h3
    go_wp2_with fail
    go_ret2
    exact ⟨HB3.out, .inr (.inl ⟨rfl, HMAY.out, HN.out.1, HN.out.2⟩)⟩
  have HN := Lib.hid (And.intro hm h3)
  obtain ⟨n3, g3, k3, hn3, rfl, hg3, hbs3⟩ : ∃ (n3 g3 k3 : Nat), n3 = (putT props).length ∧ v3 = .slice (some ⟨g3, 0, none⟩) n3 k3 ∧ w2.heap.size ≤ g3 ∧ Bytes1 w3 g3 k3 (putT props) := by
    obtain ⟨g, c, h1, h2, h3⟩ := hv3.bytes1 (by rw [putT_length]; omega)
    exact ⟨_, g, c, rfl, h1, h2, h3⟩
  have hb6 : body.length ≤ 65536 := HMAY.out.2.2.2.2
  have hu : IntKind.u64.wrap (body.length : Int) = (body.length : Int) := by rw [IntKind.wrap_u64]; omega
  have HP3 := Lib.hid hbs3
  have HN3 := Lib.hid hn3
  have hn33 : n3 ≤ 3000 := by omega
  clear hm h3 hv3 hbs3 hn3
  obtain ⟨N2, hN2⟩ : ∃ N, N = (putM m).length := ⟨_, rfl⟩
  rw [← hN2]
  have HN2 := Lib.hid hN2
  clear hN2
  go_wp2_with fail
  refine (putNum_any w3.heap.size (.slice none 0 0) [] body.length 8 (by omega) (by decide) w3 (Buf.nil _ _) (Nat.le_refl _) (by simp)).mono ?_
  rintro e w4 ⟨v4, rfl, hb4, hon4⟩
  rw [List.nil_append] at hb4
  have hbel4 := hon4.below (Buf.nil w3 w3.heap.size) (Nat.le_refl _)
  have HB4 := Lib.hid (HB3.out.trans (hbel4.mono HB3.out.size))
  have HP4 := Lib.hid (HP3.out.below hbel4)
  have HM4 := Lib.hid (HBS3.out.below hbel4)
  have HV4 := Lib.hid hb4
  have hz4 := hbel4.size
  have hgl2 : g2 < w3.heap.size := HBS3.out.lt
  clear hb4 hon4 hbel4
  go_wp2_with (at_builtin; refine put_bytes (base := w3.heap.size) (l := be 8 body.length) (m := putT props) rfl (.tmp 47) (.tmp 48) rfl HV4.out hz4 HP4.out.at (by rw [← HN3.out]; simp; omega) HN3.out rfl rfl ?_; intro v5 w5 hb5 hon5; obtain ⟨N5, a5, c5, hN5, rfl, hl5, hm5⟩ := hb5.form2; have HV5 := Lib.hid hb5; have HN5 := Lib.hid hN5; have hbel5 := hon5.below HV4.out hz4; have HB5 := Lib.hid (HB4.out.trans (hbel5.mono HB3.out.size)); have HM5 := Lib.hid (HM4.out.keep (hbel5.block g2 hgl2)); have HM55 := Lib.hid (And.intro hl5 hm5); have hz5 := hbel5.size; clear hb5 hon5 hbel5 hN5 hl5 hm5)
  have hown6 : (w5.alloc (.cells #[.int .i64 1, .int .i64 ch, .slice (some ⟨g2, 0, none⟩) N2 k2, .int .i64 2, .int .i64 ch, .slice a5 N5 c5] 36)).ownsRow w.heap.size 36 3 (.slice (some ⟨w5.heap.size, 0, none⟩) 2 2) 2 [.int .i64 1, .int .i64 ch, .slice (some ⟨g2, 0, none⟩) N2 k2, .int .i64 2, .int .i64 ch, .slice a5 N5 c5] :=
    World.ownsRow_lit w5 _ 2 HB5.out.size (by decide) (by simp)
  have HOWN6 := Lib.hid hown6
  have hb6' : Below w5.heap.size w5 (w5.alloc (.cells #[.int .i64 1, .int .i64 ch, .slice (some ⟨g2, 0, none⟩) N2 k2, .int .i64 2, .int .i64 ch, .slice a5 N5 c5] 36)) := (Below.refl _ _).alloc (Nat.le_refl _) _
  have hz6 : (w5.alloc (.cells #[.int .i64 1, .int .i64 ch, .slice (some ⟨g2, 0, none⟩) N2 k2, .int .i64 2, .int .i64 ch, .slice a5 N5 c5] 36)).heap.size = w5.heap.size + 1 := by simp
  generalize w5.alloc (.cells #[.int .i64 1, .int .i64 ch, .slice (some ⟨g2, 0, none⟩) N2 k2, .int .i64 2, .int .i64 ch, .slice a5 N5 c5] 36) = w6 at *
  obtain ⟨zs0, hzs0⟩ : ∃ zs0 : List FZ, zs0 = [(⟨1, ch, putM m⟩, (some ⟨g2, 0, none⟩, k2)), (⟨2, ch, be 8 body.length ++ putT props⟩, (a5, c5))] := ⟨_, rfl⟩
  have hown : w6.ownsRow w.heap.size 36 3 (.slice (some ⟨w5.heap.size, 0, none⟩) 2 2) zs0.length (zs0.flatMap fzc) := by
    have h := HOWN6.out
    rw [HN2.out, HN5.out] at h
    rw [hzs0]
    exact h
  have hgl5 : g2 < w5.heap.size := HM5.out.lt
  have hzok : ∀ z ∈ zs0, FZOk (Value.slice (some ⟨w5.heap.size, 0, none⟩) 2 2).ownBlock w6 z := by
    intro z hz
    rw [hzs0] at hz
    simp only [List.mem_cons, List.not_mem_nil, or_false] at hz
    rcases hz with rfl | rfl
    · have hb2 := HM5.out.below hb6'
      refine ⟨fun h0 => ?_, hb2.len, hb2.max⟩
      obtain ⟨b, o, he2, hlt2, hcc⟩ := hb2.at h0
      cases he2
      refine ⟨g2, 0, rfl, hlt2, fun e => ?_, hcc⟩
      have : w5.heap.size = g2 := by simpa [Value.ownBlock] using e
      omega
    · refine Buf.fzok HV5.out HN5.out (fun g hg _ => hb6'.block g hg) hb6'.size (fun g e => ?_) HM55.out.1 HM55.out.2
      have : w5.heap.size = g := by simpa [Value.ownBlock] using e
      omega
  have HB6 := Lib.hid (HB5.out.trans (hb6'.mono HB5.out.size))
  refine (body_any (B := w.heap.size) w.heap.size (.slice (some ⟨w5.heap.size, 0, none⟩) 2 2) zs0 ch ba bc body q (by have := HMAY.out.2.2.2.1.1; omega) (by have := HMAY.out.2.2.2.1.2; omega) hb6 hbl HBC.out w6 hown hzok HB6.out.size (by rw [hzs0]; simp) (Nat.le_refl _) (HBA.out.under HB6.out)).mono ?_
  rintro e w7 ⟨lv, zs, rfl, hmap, hown7, hz7, hbel7⟩
  have hcut : zs.map (·.1) = cutF ch m props body q := by rw [hmap, hzs0]; rfl
  obtain ⟨a7, c7, rfl, hfr⟩ := frsAt_row hown7 hz7
  rw [hcut] at hfr ⊢
  have HB7 := Lib.hid (HB6.out.trans hbel7)
  have HFR := Lib.hid hfr
  have hc8 := contains_any a7 c7 _ w7 hfr (cutF_may HMAY.out.2.2.1 HML.out HN.out.2 (by have := HMAY.out.2.2.2.1.2; omega))
  obtain ⟨N7, hN7⟩ : ∃ N, N = (cutF ch m props body q).length := ⟨_, rfl⟩
  rw [← hN7] at hc8 ⊢
  have HC8 := Lib.hid hc8
  have HN7 := Lib.hid hN7
  clear hN7 hc8 hfr hown7 hz7 hbel7 hcut hmap hown hzok hb6' HOWN6
  go_wp2_with fail
  refine HC8.out.mono ?_
  rintro e w8 ⟨rfl, hb8⟩
  have HB8 := Lib.hid hb8
  clear hb8
  go_wp2_with fail
  go_ret2
  refine ⟨HB7.out.trans (HB8.out.mono HB7.out.size), .inr (.inr ⟨HMAY.out, HN.out.1, HN.out.2, a7, c7, ?_, HFR.out.below HB8.out⟩)⟩
  rw [HN7.out]
  rfl

end Go.Proofs.Ytjnnpgmgjdhfjaa

namespace Go.Proofs.Ytjnnpgmgjdhfjaa
open Go.RowKit
set_option linter.unusedVariables false
variable {B : Nat}

theorem bytesW_below (wx : World) (e : TypeId) (t : ByteArray) : Below wx.heap.size wx (Lib.bytesWorld wx e t) :=
  ⟨rfl, rfl, rfl, by rw [Lib.bytesWorld_size]; omega, fun k hk => Lib.bytesWorld_at_old wx e t k hk⟩
/-- []byte of a string: a block of the call's own. -/
theorem conv_bytes (l : List UInt8) (hl : l.length ≤ 100000) (w : World) : ∃ (c : Nat) (w' : World), (convert 9 26 (.string ⟨l.toArray⟩)).run Try.prog w = .ok (.slice (some ⟨w.heap.size, 0, none⟩) l.length c) w' ∧ l.length ≤ c ∧ c ≤ maxLen ∧
    BytesAt w'.heap.size w' (some ⟨w.heap.size, 0, none⟩) l ∧ Below w.heap.size w w' ∧ w'.heap.size = w.heap.size + 1 := by
  have h := Lib.run_convert_string_bytes (P := Try.prog) w 9 26 5 ⟨l.toArray⟩ Try.underlying9 Try.underlying26 Try.underlying5
  have hs : (⟨l.toArray⟩ : ByteArray).size = l.length := rfl
  rw [hs] at h
  refine ⟨_, _, h, ?_, ?_, ?_, bytesW_below _ _ _, Lib.bytesWorld_size _ _ _⟩
  · exact grownCap_ge _ _ _ _
  · exact grownCap_le_maxLen _ _ _ _ (by unfold maxLen; omega)
  · intro h0
    refine ⟨w.heap.size, 0, rfl, by rw [Lib.bytesWorld_size]; omega, fun i hi => ?_⟩
    have := Lib.bytesWorld_cell w 5 ⟨l.toArray⟩ i (by rw [hs]; exact hi)
    rw [Nat.zero_add, this]
    simp [List.getD, List.getElem?_eq_getElem hi]

theorem bears_any (id : Int) (w : World) : Calls Try.prog 26 #[.int .i64 id] w (SaysW (Has id) w) := by
  by_cases h1 : id = 6040
  · subst h1
    go_enter Try.func26, Try.ntmps26
    go_wp2_with fail
    go_ret
    exact ⟨_, by simp [Has], rfl, rfl⟩
  by_cases h2 : id = 6050
  · subst h2
    go_enter Try.func26, Try.ntmps26
    go_wp2_with fail
    go_ret
    exact ⟨_, by simp [Has], rfl, rfl⟩
  by_cases h3 : id = 6060
  · subst h3
    go_enter Try.func26, Try.ntmps26
    go_wp2_with fail
    go_ret
    exact ⟨_, by simp [Has], rfl, rfl⟩
  have b1 : (id == 6040) = false := by simpa using h1
  have b2 : (id == 6050) = false := by simpa using h2
  have b3 : (id == 6060) = false := by simpa using h3
  by_cases h8 : id = 6071
  · subst h8
    go_enter Try.func26, Try.ntmps26
    go_wp2_with fail
    go_ret
    exact ⟨_, by simp [Has], rfl, rfl⟩
  have b8 : (id == 6071) = false := by simpa using h8
  go_enter Try.func26, Try.ntmps26
  go_wp2_with fail
  go_ret
  exact ⟨false, by simp [Has, h1, h2, h3, h8], by first | rfl | simp [*], rfl⟩

set_option maxRecDepth 100000 in
set_option maxHeartbeats 4000000 in
/-- two frames of one kind, one channel, the same bytes, wherever they lie. -/
theorem sameF_any (k c : Int) (d : List UInt8) (a b : Option Addr) (ca cb : Nat) (w : World) (ha : BytesAt B w a d) (hb : BytesAt B w b d) :
    Calls Try.prog 11 #[.agg #[.int .i64 k, .int .i64 c, .slice a d.length ca], .agg #[.int .i64 k, .int .i64 c, .slice b d.length cb]] w fun e w' => e = .returned (.bool true) ∧ Below w.heap.size w w' := by
  have hb1 : Below w.heap.size w (w.alloc (.cells #[.int .i64 k, .int .i64 c, .slice a d.length ca] 36)) := (Below.refl _ _).alloc (Nat.le_refl _) _
  have hb2 : Below w.heap.size w ((w.alloc (.cells #[.int .i64 k, .int .i64 c, .slice a d.length ca] 36)).alloc (.cells #[.int .i64 k, .int .i64 c, .slice b d.length cb] 36)) := hb1.alloc hb1.size _
  have v1 := conv_str ca (ha.below hb2)
  have v2 := conv_str cb (hb.below hb2)
  obtain ⟨n, hn⟩ : ∃ n, n = d.length := ⟨_, rfl⟩
  rw [← hn] at v1 v2 hb2 ⊢
  have HB2 := Lib.hid hb2
  clear ha hb hb1 hb2 hn
  go_enter Try.func11, Try.ntmps11
  go_wp2_with fail
  go_ret
  exact ⟨by first | rfl | simp [*], HB2.out⟩

end Go.Proofs.Ytjnnpgmgjdhfjaa

namespace Go.Proofs.Ytjnnpgmgjdhfjaa
open Go.RowKit
set_option linter.unusedVariables false

def RPartsP (id : Int) (w : World) (e : Ending) (w' : World) : Prop := e = .returned (.string (partsStr id)) ∧ w = w'

set_option maxHeartbeats 1000000 in
theorem rparts_2010 (w : World) : Calls Try.prog 41 #[.int .i64 2010] w (RPartsP 2010 w) := by
  go_enter Try.func41, Try.ntmps41
  go_wp2_with fail
  go_ret
  exact ⟨rfl, rfl⟩
set_option maxHeartbeats 1000000 in
theorem rparts_2011 (w : World) : Calls Try.prog 41 #[.int .i64 2011] w (RPartsP 2011 w) := by
  go_enter Try.func41, Try.ntmps41
  go_wp2_with fail
  go_ret
  exact ⟨rfl, rfl⟩
set_option maxHeartbeats 1000000 in
theorem rparts_2041 (w : World) : Calls Try.prog 41 #[.int .i64 2041] w (RPartsP 2041 w) := by
  go_enter Try.func41, Try.ntmps41
  go_wp2_with fail
  go_ret
  exact ⟨rfl, rfl⟩
set_option maxHeartbeats 1000000 in
theorem rparts_4011 (w : World) : Calls Try.prog 41 #[.int .i64 4011] w (RPartsP 4011 w) := by
  go_enter Try.func41, Try.ntmps41
  go_wp2_with fail
  go_ret
  exact ⟨rfl, rfl⟩
set_option maxHeartbeats 1000000 in
theorem rparts_5021 (w : World) : Calls Try.prog 41 #[.int .i64 5021] w (RPartsP 5021 w) := by
  go_enter Try.func41, Try.ntmps41
  go_wp2_with fail
  go_ret
  exact ⟨rfl, rfl⟩
set_option maxHeartbeats 1000000 in
theorem rparts_6011 (w : World) : Calls Try.prog 41 #[.int .i64 6011] w (RPartsP 6011 w) := by
  go_enter Try.func41, Try.ntmps41
  go_wp2_with fail
  go_ret
  exact ⟨rfl, rfl⟩
set_option maxHeartbeats 1000000 in
theorem rparts_6072 (w : World) : Calls Try.prog 41 #[.int .i64 6072] w (RPartsP 6072 w) := by
  go_enter Try.func41, Try.ntmps41
  go_wp2_with fail
  go_ret
  exact ⟨rfl, rfl⟩
set_option maxHeartbeats 1000000 in
theorem rparts_8510 (w : World) : Calls Try.prog 41 #[.int .i64 8510] w (RPartsP 8510 w) := by
  go_enter Try.func41, Try.ntmps41
  go_wp2_with fail
  go_ret
  exact ⟨rfl, rfl⟩
set_option maxHeartbeats 1000000 in
theorem rparts_8511 (w : World) : Calls Try.prog 41 #[.int .i64 8511] w (RPartsP 8511 w) := by
  go_enter Try.func41, Try.ntmps41
  go_wp2_with fail
  go_ret
  exact ⟨rfl, rfl⟩
set_option maxHeartbeats 1000000 in
theorem rparts_9010 (w : World) : Calls Try.prog 41 #[.int .i64 9010] w (RPartsP 9010 w) := by
  go_enter Try.func41, Try.ntmps41
  go_wp2_with fail
  go_ret
  exact ⟨rfl, rfl⟩
set_option maxHeartbeats 1000000 in
theorem rparts_9011 (w : World) : Calls Try.prog 41 #[.int .i64 9011] w (RPartsP 9011 w) := by
  go_enter Try.func41, Try.ntmps41
  go_wp2_with fail
  go_ret
  exact ⟨rfl, rfl⟩
set_option maxHeartbeats 1000000 in
theorem rparts_9020 (w : World) : Calls Try.prog 41 #[.int .i64 9020] w (RPartsP 9020 w) := by
  go_enter Try.func41, Try.ntmps41
  go_wp2_with fail
  go_ret
  exact ⟨rfl, rfl⟩
set_option maxHeartbeats 1000000 in
theorem rparts_9021 (w : World) : Calls Try.prog 41 #[.int .i64 9021] w (RPartsP 9021 w) := by
  go_enter Try.func41, Try.ntmps41
  go_wp2_with fail
  go_ret
  exact ⟨rfl, rfl⟩
set_option maxHeartbeats 1000000 in
theorem rparts_9030 (w : World) : Calls Try.prog 41 #[.int .i64 9030] w (RPartsP 9030 w) := by
  go_enter Try.func41, Try.ntmps41
  go_wp2_with fail
  go_ret
  exact ⟨rfl, rfl⟩
set_option maxHeartbeats 1000000 in
theorem rparts_9031 (w : World) : Calls Try.prog 41 #[.int .i64 9031] w (RPartsP 9031 w) := by
  go_enter Try.func41, Try.ntmps41
  go_wp2_with fail
  go_ret
  exact ⟨rfl, rfl⟩
set_option maxHeartbeats 1000000 in
theorem rparts_2040 (w : World) : Calls Try.prog 41 #[.int .i64 2040] w (RPartsP 2040 w) := by
  go_enter Try.func41, Try.ntmps41
  go_wp2_with fail
  go_ret
  exact ⟨rfl, rfl⟩
set_option maxHeartbeats 1000000 in
theorem rparts_4010 (w : World) : Calls Try.prog 41 #[.int .i64 4010] w (RPartsP 4010 w) := by
  go_enter Try.func41, Try.ntmps41
  go_wp2_with fail
  go_ret
  exact ⟨rfl, rfl⟩
set_option maxHeartbeats 1000000 in
theorem rparts_5010 (w : World) : Calls Try.prog 41 #[.int .i64 5010] w (RPartsP 5010 w) := by
  go_enter Try.func41, Try.ntmps41
  go_wp2_with fail
  go_ret
  exact ⟨rfl, rfl⟩
set_option maxHeartbeats 1000000 in
theorem rparts_6070 (w : World) : Calls Try.prog 41 #[.int .i64 6070] w (RPartsP 6070 w) := by
  go_enter Try.func41, Try.ntmps41
  go_wp2_with fail
  go_ret
  exact ⟨rfl, rfl⟩
set_option maxHeartbeats 1000000 in
theorem rparts_5011 (w : World) : Calls Try.prog 41 #[.int .i64 5011] w (RPartsP 5011 w) := by
  go_enter Try.func41, Try.ntmps41
  go_wp2_with fail
  go_ret
  exact ⟨rfl, rfl⟩
set_option maxHeartbeats 1000000 in
theorem rparts_5020 (w : World) : Calls Try.prog 41 #[.int .i64 5020] w (RPartsP 5020 w) := by
  go_enter Try.func41, Try.ntmps41
  go_wp2_with fail
  go_ret
  exact ⟨rfl, rfl⟩
set_option maxHeartbeats 1000000 in
theorem rparts_6010 (w : World) : Calls Try.prog 41 #[.int .i64 6010] w (RPartsP 6010 w) := by
  go_enter Try.func41, Try.ntmps41
  go_wp2_with fail
  go_ret
  exact ⟨rfl, rfl⟩
set_option maxHeartbeats 1000000 in
theorem rparts_6020 (w : World) : Calls Try.prog 41 #[.int .i64 6020] w (RPartsP 6020 w) := by
  go_enter Try.func41, Try.ntmps41
  go_wp2_with fail
  go_ret
  exact ⟨rfl, rfl⟩
set_option maxHeartbeats 1000000 in
theorem rparts_6021 (w : World) : Calls Try.prog 41 #[.int .i64 6021] w (RPartsP 6021 w) := by
  go_enter Try.func41, Try.ntmps41
  go_wp2_with fail
  go_ret
  exact ⟨rfl, rfl⟩
set_option maxHeartbeats 1000000 in
theorem rparts_6040 (w : World) : Calls Try.prog 41 #[.int .i64 6040] w (RPartsP 6040 w) := by
  go_enter Try.func41, Try.ntmps41
  go_wp2_with fail
  go_ret
  exact ⟨rfl, rfl⟩
set_option maxHeartbeats 1000000 in
theorem rparts_6050 (w : World) : Calls Try.prog 41 #[.int .i64 6050] w (RPartsP 6050 w) := by
  go_enter Try.func41, Try.ntmps41
  go_wp2_with fail
  go_ret
  exact ⟨rfl, rfl⟩
set_option maxHeartbeats 1000000 in
theorem rparts_6060 (w : World) : Calls Try.prog 41 #[.int .i64 6060] w (RPartsP 6060 w) := by
  go_enter Try.func41, Try.ntmps41
  go_wp2_with fail
  go_ret
  exact ⟨rfl, rfl⟩
set_option maxHeartbeats 1000000 in
theorem rparts_6071 (w : World) : Calls Try.prog 41 #[.int .i64 6071] w (RPartsP 6071 w) := by
  go_enter Try.func41, Try.ntmps41
  go_wp2_with fail
  go_ret
  exact ⟨rfl, rfl⟩
set_option maxHeartbeats 1000000 in
theorem rparts_6080 (w : World) : Calls Try.prog 41 #[.int .i64 6080] w (RPartsP 6080 w) := by
  go_enter Try.func41, Try.ntmps41
  go_wp2_with fail
  go_ret
  exact ⟨rfl, rfl⟩
set_option maxHeartbeats 1000000 in
theorem rparts_6090 (w : World) : Calls Try.prog 41 #[.int .i64 6090] w (RPartsP 6090 w) := by
  go_enter Try.func41, Try.ntmps41
  go_wp2_with fail
  go_ret
  exact ⟨rfl, rfl⟩
set_option maxHeartbeats 1000000 in
theorem rparts_6120 (w : World) : Calls Try.prog 41 #[.int .i64 6120] w (RPartsP 6120 w) := by
  go_enter Try.func41, Try.ntmps41
  go_wp2_with fail
  go_ret
  exact ⟨rfl, rfl⟩

set_option maxHeartbeats 4000000 in
theorem rparts_not (id : Int) (h : ∀ e ∈ partsTab, ¬ id = e.1) (w : World) : Calls Try.prog 41 #[.int .i64 id] w (RPartsP id w) := by
  have hp := partsOf_none h
  have n2010 : ¬ id = 2010 := fun e => by subst e; revert hp; decide
  have n2011 : ¬ id = 2011 := fun e => by subst e; revert hp; decide
  have n2041 : ¬ id = 2041 := fun e => by subst e; revert hp; decide
  have n4011 : ¬ id = 4011 := fun e => by subst e; revert hp; decide
  have n5021 : ¬ id = 5021 := fun e => by subst e; revert hp; decide
  have n6011 : ¬ id = 6011 := fun e => by subst e; revert hp; decide
  have n6072 : ¬ id = 6072 := fun e => by subst e; revert hp; decide
  have n8510 : ¬ id = 8510 := fun e => by subst e; revert hp; decide
  have n8511 : ¬ id = 8511 := fun e => by subst e; revert hp; decide
  have n9010 : ¬ id = 9010 := fun e => by subst e; revert hp; decide
  have n9011 : ¬ id = 9011 := fun e => by subst e; revert hp; decide
  have n9020 : ¬ id = 9020 := fun e => by subst e; revert hp; decide
  have n9021 : ¬ id = 9021 := fun e => by subst e; revert hp; decide
  have n9030 : ¬ id = 9030 := fun e => by subst e; revert hp; decide
  have n9031 : ¬ id = 9031 := fun e => by subst e; revert hp; decide
  have n2040 : ¬ id = 2040 := fun e => by subst e; revert hp; decide
  have n4010 : ¬ id = 4010 := fun e => by subst e; revert hp; decide
  have n5010 : ¬ id = 5010 := fun e => by subst e; revert hp; decide
  have n6070 : ¬ id = 6070 := fun e => by subst e; revert hp; decide
  have n5011 : ¬ id = 5011 := fun e => by subst e; revert hp; decide
  have n5020 : ¬ id = 5020 := fun e => by subst e; revert hp; decide
  have n6010 : ¬ id = 6010 := fun e => by subst e; revert hp; decide
  have n6020 : ¬ id = 6020 := fun e => by subst e; revert hp; decide
  have n6021 : ¬ id = 6021 := fun e => by subst e; revert hp; decide
  have n6040 : ¬ id = 6040 := fun e => by subst e; revert hp; decide
  have n6050 : ¬ id = 6050 := fun e => by subst e; revert hp; decide
  have n6060 : ¬ id = 6060 := fun e => by subst e; revert hp; decide
  have n6071 : ¬ id = 6071 := fun e => by subst e; revert hp; decide
  have n6080 : ¬ id = 6080 := fun e => by subst e; revert hp; decide
  have n6090 : ¬ id = 6090 := fun e => by subst e; revert hp; decide
  have n6120 : ¬ id = 6120 := fun e => by subst e; revert hp; decide
  have HP := Lib.hid hp
  clear hp h
  go_enter Try.func41, Try.ntmps41
  go_wp2_with fail
  go_ret
  refine ⟨?_, rfl⟩
  unfold partsStr
  rw [HP.out]
  rfl

theorem rparts_any (id : Int) (w : World) : Calls Try.prog 41 #[.int .i64 id] w fun e w' => e = .returned (.string (partsStr id)) ∧ w = w' := by
  by_cases h : ∀ e ∈ partsTab, ¬ id = e.1
  · exact rparts_not id h w
  · have h0 := h
    clear h
    by_cases e2010 : id = 2010
    · subst e2010; exact rparts_2010 w
    by_cases e2011 : id = 2011
    · subst e2011; exact rparts_2011 w
    by_cases e2041 : id = 2041
    · subst e2041; exact rparts_2041 w
    by_cases e4011 : id = 4011
    · subst e4011; exact rparts_4011 w
    by_cases e5021 : id = 5021
    · subst e5021; exact rparts_5021 w
    by_cases e6011 : id = 6011
    · subst e6011; exact rparts_6011 w
    by_cases e6072 : id = 6072
    · subst e6072; exact rparts_6072 w
    by_cases e8510 : id = 8510
    · subst e8510; exact rparts_8510 w
    by_cases e8511 : id = 8511
    · subst e8511; exact rparts_8511 w
    by_cases e9010 : id = 9010
    · subst e9010; exact rparts_9010 w
    by_cases e9011 : id = 9011
    · subst e9011; exact rparts_9011 w
    by_cases e9020 : id = 9020
    · subst e9020; exact rparts_9020 w
    by_cases e9021 : id = 9021
    · subst e9021; exact rparts_9021 w
    by_cases e9030 : id = 9030
    · subst e9030; exact rparts_9030 w
    by_cases e9031 : id = 9031
    · subst e9031; exact rparts_9031 w
    by_cases e2040 : id = 2040
    · subst e2040; exact rparts_2040 w
    by_cases e4010 : id = 4010
    · subst e4010; exact rparts_4010 w
    by_cases e5010 : id = 5010
    · subst e5010; exact rparts_5010 w
    by_cases e6070 : id = 6070
    · subst e6070; exact rparts_6070 w
    by_cases e5011 : id = 5011
    · subst e5011; exact rparts_5011 w
    by_cases e5020 : id = 5020
    · subst e5020; exact rparts_5020 w
    by_cases e6010 : id = 6010
    · subst e6010; exact rparts_6010 w
    by_cases e6020 : id = 6020
    · subst e6020; exact rparts_6020 w
    by_cases e6021 : id = 6021
    · subst e6021; exact rparts_6021 w
    by_cases e6040 : id = 6040
    · subst e6040; exact rparts_6040 w
    by_cases e6050 : id = 6050
    · subst e6050; exact rparts_6050 w
    by_cases e6060 : id = 6060
    · subst e6060; exact rparts_6060 w
    by_cases e6071 : id = 6071
    · subst e6071; exact rparts_6071 w
    by_cases e6080 : id = 6080
    · subst e6080; exact rparts_6080 w
    by_cases e6090 : id = 6090
    · subst e6090; exact rparts_6090 w
    by_cases e6120 : id = 6120
    · subst e6120; exact rparts_6120 w
    exact absurd (fun e he => by simp [partsTab] at he; rcases he with rfl | rfl | rfl | rfl | rfl | rfl | rfl | rfl | rfl | rfl | rfl | rfl | rfl | rfl | rfl | rfl | rfl | rfl | rfl | rfl | rfl | rfl | rfl | rfl | rfl | rfl | rfl | rfl | rfl | rfl | rfl <;> assumption) h0

end Go.Proofs.Ytjnnpgmgjdhfjaa

namespace Go.Proofs.Ytjnnpgmgjdhfjaa
open Go.RowKit
set_option linter.unusedVariables false

def bigRel (W : World) (x size : Nat) (n : Nat) (v5 v6 : Value) (wr : World) : Prop :=
  ∃ s : Nat, s ≤ size ∧ n = s ∧ v6 = .int .i64 ((s : Int) - 1) ∧ Below W.heap.size W wr ∧ Buf wr W.heap.size v5 ((be size x).take (size - s))

theorem big_any (x size : Nat) (hx : x < 18446744073709551616) (hs : size ≤ 8) (w : World) :
    Calls Try.prog 30 #[.int .u64 x, .int .i64 size] w fun e w' => e = .returned (.string ⟨(be size x).toArray⟩) ∧ Below w.heap.size w w' := by
  have HX := Lib.hid hx
  clear hx
  go_enter Try.func30, Try.ntmps30
  go_wp2_with fail
  go_loopg [5, 6] size (bigRel w x size)
  case atStart => exact ⟨size, Nat.le_refl _, rfl, rfl, Below.refl _ _, by simpa using Buf.nil w w.heap.size⟩
  case round =>
    obtain ⟨s, hss, rfl, rfl, hb, hbuf⟩ := hrel
    have HB := Lib.hid hb
    have HBUF := Lib.hid hbuf
    clear hb hbuf
    cases gk with
    | zero =>
      obtain ⟨a, c, rfl, _, _⟩ := HBUF.out.form
      have hcv := HBUF.out.bytes
      obtain ⟨a', c', he, _, _, hat⟩ := hcv
      obtain ⟨rfl, -, rfl⟩ := Value.slice.inj he
      have hcv := conv_str c hat
      have htk : (be size x).take (size - 0) = be size x := List.take_of_length_le (by simp)
      rw [htk] at hcv ⊢
      rw [be_length] at hcv ⊢
      clear he hat htk
      go_wp2_with fail
      go_ret
      exact ⟨rfl, HB.out⟩
    | succ m =>
      rw [show ((m + 1 : Nat) : Int) - 1 = (m : Int) by omega]
      have hst := be_step (n := x) (s := m + 1) (by omega) hss
      rw [Nat.add_sub_cancel] at hst
      have HST := Lib.hid hst
      clear hst
      have hle : ((be size x).take (size - (m + 1))).length ≤ 1000000 := by simp; omega
      have hsz : w.heap.size ≤ wr.heap.size := HB.out.size
      have m0 : (0 : Int) ≤ (m : Int) := by omega
      have m8 : (m : Int) < 8 := by omega
      go_wp2_with (at_builtin; refine put_one (base := w.heap.size) (w := wr) rfl (.tmp 13) (.tmp 20) rfl HBUF.out hsz hle (UInt8.ofNat (x / 2 ^ (8 * m) % 256)) (by simp) rfl _ rfl rfl ?_; intro v2 w2 hb2 hon2; rw [← HST.out] at hb2; have HBUF2 := Lib.hid hb2; have HBEL2 := Lib.hid (HB.out.trans (hon2.below HBUF.out hsz)); clear hb2 hon2)
      go_roundg m
      case measure => omega
      case rel => exact ⟨m, by omega, rfl, by simp, HBEL2.out, HBUF2.out⟩

theorem cat_list (l l' : List UInt8) : (⟨l.toArray⟩ : ByteArray) ++ ⟨l'.toArray⟩ = ⟨(l ++ l').toArray⟩ := by
  rw [ByteArray.mk_append_mk]

theorem big1 (x : Nat) (hx : x < 18446744073709551616) (w : World) : Calls Try.prog 30 #[.int .u64 x, .int .i64 1] w fun e w' => e = .returned (.string ⟨(be 1 x).toArray⟩) ∧ Below w.heap.size w w' := big_any x 1 hx (by decide) w

theorem big2 (x : Nat) (hx : x < 18446744073709551616) (w : World) : Calls Try.prog 30 #[.int .u64 x, .int .i64 2] w fun e w' => e = .returned (.string ⟨(be 2 x).toArray⟩) ∧ Below w.heap.size w w' := big_any x 2 hx (by decide) w

theorem big4 (x : Nat) (hx : x < 18446744073709551616) (w : World) : Calls Try.prog 30 #[.int .u64 x, .int .i64 4] w fun e w' => e = .returned (.string ⟨(be 4 x).toArray⟩) ∧ Below w.heap.size w w' := big_any x 4 hx (by decide) w

theorem below_alloc {B : Nat} {w wx : World} {o : Obj} (h : Below B (w.alloc o) wx) : w.heap.size + 1 ≤ wx.heap.size := by
  have := h.size
  simpa using this


theorem big8 (x : Nat) (hx : x < 18446744073709551616) (w : World) : Calls Try.prog 30 #[.int .u64 x, .int .i64 8] w fun e w' => e = .returned (.string ⟨(be 8 x).toArray⟩) ∧ Below w.heap.size w w' := big_any x 8 hx (by decide) w

end Go.Proofs.Ytjnnpgmgjdhfjaa

namespace Go.Proofs.Ytjnnpgmgjdhfjaa
open Go.RowKit
set_option linter.unusedVariables false

def rhasRel (l : List Pt) (p : Pt) (w : World) (k : Nat) (v6 : Value) (wr : World) : Prop :=
  wr = w ∧ ∃ i : Nat, i ≤ l.length ∧ k = l.length - i ∧ v6 = .int .i64 i ∧ p ∉ l.take i

set_option maxRecDepth 100000 in
set_option maxHeartbeats 4000000 in
/-- has a method of these parts that part? -/
theorem rhas_any {id : Int} {l : List Pt} (h : partsOf id = some l) (p : Pt) (w : World) :
    Calls Try.prog 42 #[.int .i64 id, .int .u8 p.byte.toNat] w fun e w' => e = .returned (.bool (decide (p ∈ l))) ∧ w = w' := by
  have hps : partsStr id = ltr l := by unfold partsStr; rw [h]
  have hl5 := (partsOf_some h).1
  have HP := Lib.hid hps
  clear h hps
  go_enter Try.func42, Try.ntmps42
  go_wp2_with fail
  refine (rparts_any id _).mono ?_
  rintro e w1 ⟨rfl, rfl⟩
  rw [HP.out]
  go_wp2_with fail
  go_loopg [6] l.length (rhasRel l p w)
  case atStart => exact ⟨rfl, 0, Nat.zero_le _, rfl, rfl, by simp⟩
  case round =>
    obtain ⟨rfl, i, hi, rfl, rfl, hno⟩ := hrel
    have HNO := Lib.hid hno
    clear hno
    by_cases hlt : i < l.length
    · have hlti : (i : Int) < (l.length : Int) := by omega
      have hix := ltr_index l i hlt
      have hs1 : IntKind.i64.wrap ((i : Int) + 1) = ((i + 1 : Nat) : Int) := by rw [IntWalk.i64_in _ (by omega)]; omega
      by_cases he : l[i] = p
      · have hb : ((l[i].byte.toNat : Int) == (p.byte.toNat : Int)) = true := by rw [he]; simp
        have hin : p ∈ l := by rw [← he]; exact List.getElem_mem hlt
        have hd : decide (p ∈ l) = true := by simp [hin]
        have HD := Lib.hid hd
        clear he hin hd
        go_wp2_with fail
        go_ret
        exact ⟨by rw [HD.out]; rfl, rfl⟩
      · have hb : ((l[i].byte.toNat : Int) == (p.byte.toNat : Int)) = false := by
          rw [beq_eq_false_iff_ne]
          intro e
          refine he ?_
          revert e
          generalize l[i] = q
          cases q <;> cases p <;> first | (intro _; rfl) | (intro e; exact absurd e (by decide))
        have hno2 : p ∉ l.take (i + 1) := by
          rw [List.take_succ_eq_append_getElem hlt, List.mem_append, List.mem_singleton]
          rintro (h | h)
          · exact HNO.out h
          · exact he h.symm
        have HN2 := Lib.hid hno2
        clear he hno2
        go_wp2_with fail
        go_roundg (l.length - (i + 1))
        case measure => omega
        case rel => exact ⟨rfl, i + 1, by omega, rfl, by first | rfl | (rw [Int.natCast_add]; rfl), HN2.out⟩
    · have hlti : ¬ (i : Int) < (l.length : Int) := by omega
      obtain rfl : i = l.length := by omega
      have hd : decide (p ∈ l) = false := by
        have := HNO.out
        rw [List.take_length] at this
        simpa using this
      have HD := Lib.hid hd
      clear hd
      go_wp2_with fail
      go_ret
      exact ⟨by rw [HD.out]; rfl, rfl⟩

theorem rflag_any (b : Bool) (w : World) : Calls Try.prog 45 #[.bool b] w fun e w' => e = .returned (.string ⟨(be 1 (bitN b)).toArray⟩) ∧ w = w' := by
  cases b
  all_goals
    go_enter Try.func45, Try.ntmps45
    go_wp2_with fail
    go_ret
    exact ⟨rfl, rfl⟩

set_option maxHeartbeats 1000000 in
theorem rtext_any (s : ByteArray) (hs : s.size ≤ 100000) (w : World) : Calls Try.prog 44 #[.string s] w fun e w' => e = .returned (.string ⟨(be 1 s.size ++ s.data.toList).toArray⟩) ∧ Below w.heap.size w w' := by
  have hsu : IntKind.u64.wrap (s.size : Int) = (s.size : Int) := by rw [IntKind.wrap_u64]; omega
  go_enter Try.func44, Try.ntmps44
  go_wp2_with fail
  refine (big1 s.size (by omega) _).mono ?_
  rintro e w2 ⟨rfl, hb⟩
  have HB := Lib.hid hb
  clear hb
  go_wp2_with fail
  go_ret
  refine ⟨?_, HB.out⟩
  refine congrArg (fun s => Ending.returned (.string s)) ?_
  have := cat_list (be 1 s.size) s.data.toList
  simpa using this

end Go.Proofs.Ytjnnpgmgjdhfjaa

namespace Go.Proofs.Ytjnnpgmgjdhfjaa
open Go.RowKit
set_option linter.unusedVariables false

/-- a table that may be is no longer than its weight allows. -/
theorem putAll_le : ∀ (n : Nat) (l : List It), weigh l ≤ n → ∀ d, (∀ x ∈ l, x.name.size ≤ 40) → MayAll d l → (putAll l).length + 300 ≤ 300 * weigh l
  | 0, l, h => by have := weigh_pos l; omega
  | n + 1, [], _ => by intro _ _ _; simp [weigh, putAll]
  | n + 1, x :: r, h => by
    intro d hn hm
    simp only [MayAll] at hm
    have h0 := weigh_pos x.sub
    have h1 := weigh_pos r
    rw [weigh_cons] at h ⊢
    have hr := putAll_le n r (by omega) d (fun y hy => hn y (by simp [hy])) hm.2
    have hx := hn x (by simp)
    have hp := put_eq x
    have hlen : x.put.length = 1 + x.name.size + x.putV.length := by rw [hp]; simp only [List.cons_append, List.length_cons, List.length_append, size_toList]; omega
    have hv : x.putV.length ≤ 205 ∨ (x.kind = 5 ∧ MayT d x.sub ∧ x.putV.length = 5 + (putAll x.sub).length) := by
      have hk := hm.1
      rw [may_iff] at hk
      unfold It.putV
      rcases hk with ⟨h, _⟩ | ⟨h, _⟩ | ⟨h, _⟩ | ⟨h, _⟩ | ⟨h, _, h2, _⟩ | ⟨h5, _, _, hs⟩
      · left; rw [h]; simp
      · left; rw [h]; simp
      · left; rw [h]; simp
      · left; rw [h]; simp
      · left; rw [h]; simp; omega
      · right; refine ⟨h5, hs, ?_⟩; rw [h5]; simp [putT_length]; omega
    rw [putAll, List.length_append]
    rcases hv with hv | ⟨_, hs, hv⟩
    · omega
    · have hsub := putAll_le n x.sub (by omega) (d + 1) (fun y hy => by
        obtain ⟨i, hi, rfl⟩ := List.getElem_of_mem hy
        exact (hs.2.2.1 i hi).2.1) hs.2.2.2
      omega

/-- the document's bytes of a value. -/
def RPutV (x : It) (w : World) (e : Ending) (w' : World) : Prop := e = .returned (.string ⟨x.putV.toArray⟩) ∧ Below w.heap.size w w'
def RPutT (l : List It) (w : World) (e : Ending) (w' : World) : Prop := e = .returned (.string ⟨(putT l).toArray⟩) ∧ Below w.heap.size w w'

theorem cat_str (l : List UInt8) (s : ByteArray) : (⟨l.toArray⟩ : ByteArray) ++ s = ⟨(l ++ s.data.toList).toArray⟩ := by
  have := cat_list l s.data.toList
  simpa using this
theorem cat_three (l m : List UInt8) (s : ByteArray) : (⟨l.toArray⟩ : ByteArray) ++ ⟨m.toArray⟩ ++ s = ⟨(l ++ (m ++ s.data.toList)).toArray⟩ := by
  rw [cat_list, cat_str, List.append_assoc]
theorem ret_cat {l m r : List UInt8} (h : l ++ m = r) : Ending.returned (.string ((⟨l.toArray⟩ : ByteArray) ++ ⟨m.toArray⟩)) = Ending.returned (.string ⟨r.toArray⟩) := by rw [cat_list, h]

set_option maxRecDepth 100000 in
set_option maxHeartbeats 4000000 in
theorem rputV_any (x : It) (hn : -9223372036854775808 ≤ x.n ∧ x.n ≤ 9223372036854775807) (a : Option Addr) (cap : Nat) (hs : x.s.size ≤ 100000) (w : World)
    (ih : x.kind = 5 → (putT x.sub).length ≤ 1000000000 ∧ ∀ w1, Below w.heap.size w w1 → Calls Try.prog 29 #[.slice a x.sub.length cap] w1 (RPutT x.sub w1)) :
    Calls Try.prog 46 #[.agg #[.int .i64 x.kind, .int .i64 x.n, .string x.s, .slice a x.sub.length cap]] w (RPutV x w) := by
  obtain ⟨nm, k, n, s, sub⟩ := x
  simp only [It.kind_mk, It.n_mk, It.s_mk, It.sub_mk] at *
  have hbel : Below w.heap.size w (w.alloc (.cells #[.int .i64 k, .int .i64 n, .string s, .slice a sub.length cap] 72)) := (Below.refl _ _).alloc (Nat.le_refl _) _
  have HB := Lib.hid hbel
  have hu : u64 n < 18446744073709551616 := by unfold u64; omega
  have hw : IntKind.u64.wrap n = ((u64 n : Nat) : Int) := by rw [IntKind.wrap_u64]; unfold u64; omega
  clear hbel
  by_cases h1 : k = 1
  · subst h1
    have hv : (It.mk nm 1 n s sub).putV = 116 :: be 1 (u64 n) := rfl
    unfold RPutV
    rw [hv]
    clear hv
    go_enter Try.func46, Try.ntmps46
    go_wp2_with fail
    refine (big1 (u64 n) hu _).mono ?_
    rintro e w2 ⟨rfl, hb⟩
    have HB2 := Lib.hid (HB.out.trans (hb.mono HB.out.size))
    clear hb hw hu
    go_wp2_with fail
    go_ret
    exact ⟨ret_cat (l := [116]) rfl, HB2.out⟩
  have b1 : (k == 1) = false := by simpa using h1
  by_cases h2 : k = 2
  · subst h2
    have hv : (It.mk nm 2 n s sub).putV = 73 :: be 4 (u64 n) := rfl
    unfold RPutV
    rw [hv]
    clear hv
    go_enter Try.func46, Try.ntmps46
    go_wp2_with fail
    refine (big4 (u64 n) hu _).mono ?_
    rintro e w2 ⟨rfl, hb⟩
    have HB2 := Lib.hid (HB.out.trans (hb.mono HB.out.size))
    clear hb hw hu
    go_wp2_with fail
    go_ret
    exact ⟨ret_cat (l := [73]) rfl, HB2.out⟩
  have b2 : (k == 2) = false := by simpa using h2
  by_cases h3 : k = 3
  · subst h3
    have hv : (It.mk nm 3 n s sub).putV = 108 :: be 8 (u64 n) := rfl
    unfold RPutV
    rw [hv]
    clear hv
    go_enter Try.func46, Try.ntmps46
    go_wp2_with fail
    refine (big8 (u64 n) hu _).mono ?_
    rintro e w2 ⟨rfl, hb⟩
    have HB2 := Lib.hid (HB.out.trans (hb.mono HB.out.size))
    clear hb hw hu
    go_wp2_with fail
    go_ret
    exact ⟨ret_cat (l := [108]) rfl, HB2.out⟩
  have b3 : (k == 3) = false := by simpa using h3
  by_cases h4 : k = 4
  · subst h4
    have hv : (It.mk nm 4 n s sub).putV = 83 :: (be 4 s.size ++ s.data.toList) := rfl
    unfold RPutV
    rw [hv]
    clear hv
    have hblk : (w.alloc (.cells #[.int .i64 4, .int .i64 n, .string s, .slice a sub.length cap] 72)).heap[w.heap.size]? = some (.cells #[.int .i64 4, .int .i64 n, .string s, .slice a sub.length cap] 72 (0, 0)) := heap_alloc_new w _
    have hz : (w.alloc (.cells #[.int .i64 4, .int .i64 n, .string s, .slice a sub.length cap] 72)).heap.size = w.heap.size + 1 := by simp
    have KS : ∀ wx, Below (w.heap.size + 1) (w.alloc (.cells #[.int .i64 4, .int .i64 n, .string s, .slice a sub.length cap] 72)) wx → wx.cell? ⟨w.heap.size, 2, none⟩ = some (.string s) ∧ Below (w.heap.size + 1) (w.alloc (.cells #[.int .i64 4, .int .i64 n, .string s, .slice a sub.length cap] 72)) wx := by
      intro wx hx
      refine ⟨?_, hx⟩
      rw [cell_of_row wx _ _ _ _ _ ((hx.block _ (by omega)).trans hblk)]
      rfl
    have KH := Lib.hid KS
    have hsu : IntKind.u64.wrap (s.size : Int) = (s.size : Int) := by rw [IntKind.wrap_u64]; omega
    have xs : s.size < 18446744073709551616 := by omega
    have q1 : ¬ 9223372036854775807 < 5 + s.size := by omega
    clear hblk hz KS hw hu
    go_enter Try.func46, Try.ntmps46
    go_wp2_with fail
    go_region_held3 (fun wx => wx.cell? ⟨w.heap.size, 2, none⟩ = some (.string s) ∧ Below (w.heap.size + 1) (w.alloc (.cells #[.int .i64 4, .int .i64 n, .string s, .slice a sub.length cap] 72)) wx)
      (first | exact KH.out _ (Below.refl _ _).drew | exact KH.out _ (Below.refl _ _) | exact KH.out _ (by assumption))
      ((go_at_call 30; have hbx := (by assumption : _ ∧ Below _ _ _).2; refine (big4 _ xs _).mono ?_; rintro e w2 ⟨rfl, hb2⟩; have hbz := hbx.trans (hb2.mono (below_alloc hbx)); clear hb2 hbx))
    rename_i hHeld
    clear hHeld
    have HBZ := Lib.hid hbz
    go_wp2_with fail
    go_ret
    refine ⟨?_, HB.out.trans (HBZ.out.mono (by omega))⟩
    exact congrArg (fun s => Ending.returned (.string s)) (cat_three [83] (be 4 s.size) s)
  have b4 : (k == 4) = false := by simpa using h4
  by_cases h5 : k = 5
  · subst h5
    have hv : (It.mk nm 5 n s sub).putV = 70 :: putT sub := rfl
    unfold RPutV
    rw [hv]
    clear hv
    obtain ⟨i1, i2⟩ := ih rfl
    have HI := Lib.hid i1
    clear i1
    go_enter Try.func46, Try.ntmps46
    go_wp2_with fail
    refine (i2 _ HB.out).mono ?_
    rintro e w2 ⟨rfl, hb⟩
    have HB2 := Lib.hid (HB.out.trans (hb.mono HB.out.size))
    have hl := HI.out
    clear hb hw hu
    go_wp2_with fail
    go_ret
    exact ⟨ret_cat (l := [70]) rfl, HB2.out⟩
  have b5 : (k == 5) = false := by simpa using h5
  have hv : (It.mk nm k n s sub).putV = [86] := by unfold It.putV; simp [h1, h2, h3, h4, h5]
  unfold RPutV
  rw [hv]
  clear hv
  go_enter Try.func46, Try.ntmps46
  go_wp2_with fail
  go_ret
  exact ⟨rfl, HB.out⟩

def rputRel (w : World) (l : List It) (k : Nat) (v3 v4 : Value) (wr : World) : Prop :=
  Below w.heap.size w wr ∧ ∃ i : Nat, i ≤ l.length ∧ k = l.length - i ∧ v3 = .string ⟨(putAll (l.take i)).toArray⟩ ∧ v4 = .int .i64 i

theorem take_put {l : List It} {i : Nat} (h : i < l.length) : putAll (l.take (i + 1)) = putAll (l.take i) ++ (be 1 l[i].name.size ++ (l[i].name.data.toList ++ l[i].putV)) := by
  rw [List.take_succ_eq_append_getElem h, putAll_append]
  simp only [putAll, List.append_nil]
  rw [put_eq, be_one]
  rfl
theorem putAll_take_le (l : List It) (i : Nat) : (putAll (l.take i)).length ≤ (putAll l).length := by
  have := congrArg List.length (putAll_append (l.take i) (l.drop i))
  rw [List.take_append_drop, List.length_append] at this
  omega
theorem cat_four (l m : List UInt8) (s : ByteArray) (r : List UInt8) : (⟨l.toArray⟩ : ByteArray) ++ ⟨m.toArray⟩ ++ s ++ ⟨r.toArray⟩ = ⟨(l ++ (m ++ (s.data.toList ++ r))).toArray⟩ := by
  rw [cat_three, cat_list]
  simp only [List.append_assoc]

set_option maxRecDepth 100000 in
set_option maxHeartbeats 4000000 in
theorem rputT_any : ∀ (n : Nat) {a : Option Addr} {cap : Nat} {l : List It} (_ : weigh l ≤ n) (_ : n ≤ 100000) (d : Nat) (_ : ∀ x ∈ l, x.name.size ≤ 40) (_ : MayAll d l) (w : World) (_ : Tb w a cap l),
    Calls Try.prog 29 #[.slice a l.length cap] w (RPutT l w)
  | 0, a, cap, l, h, _, _, _, _, _, _ => by have := weigh_pos l; omega
  | n + 1, a, cap, l, hn, hn1, d, hnm, hm, w, hl => by
    have hlen := hl.len
    have hle := putAll_le _ l (Nat.le_refl _) d hnm hm
    have hle2 : (putAll l).length ≤ 30000000 := by omega
    have HM := Lib.hid hm
    have HNM := Lib.hid hnm
    clear hle hm hnm
    unfold maxLen at hlen
    go_enter Try.func29, Try.ntmps29
    go_wp2_with fail
    go_loopg [3, 4] l.length (rputRel w l)
    case atStart => exact ⟨Below.refl _ _, 0, Nat.zero_le _, rfl, rfl, rfl⟩
    case round =>
      obtain ⟨hb, i, hi, rfl, rfl, rfl⟩ := hrel
      have HB := Lib.hid hb
      clear hb
      by_cases hlt : i < l.length
      · have hlti : (i : Int) < (l.length : Int) := by omega
        have h0i : (0 : Int) ≤ (i : Int) := by omega
        obtain ⟨b, o, a1, cap1, rfl, _, hx, ht⟩ := (hl.below HB.out).get hlt
        have hn40 := HNM.out _ (List.getElem_mem hlt)
        have KS : ∀ wx, Below wr.heap.size wr wx → wx.cell? ⟨b, o + i * 5, none⟩ = some (.string l[i].name) ∧ wx.cell? ⟨b, o + i * 5 + 1, none⟩ = some (.int .i64 l[i].kind) ∧ wx.cell? ⟨b, o + i * 5 + 2, none⟩ = some (.int .i64 l[i].n) ∧ wx.cell? ⟨b, o + i * 5 + 3, none⟩ = some (.string l[i].s) ∧ wx.cell? ⟨b, o + i * 5 + 4, none⟩ = some (.slice a1 l[i].sub.length cap1) ∧ Below wr.heap.size wr wx := by
          intro wx h
          have hbk := lt_of_cell hx.c0
          exact ⟨(h.cell hbk).trans hx.c0, (h.cell hbk).trans hx.c1, (h.cell hbk).trans hx.c2, (h.cell hbk).trans hx.c3, (h.cell hbk).trans hx.c4, h⟩
        have KH := Lib.hid KS
        have HT := Lib.hid ht
        have HX := Lib.hid hx
        have HW := Lib.hid (weigh_mem (List.getElem_mem hlt))
        have hu : IntKind.u64.wrap (l[i].name.size : Int) = (l[i].name.size : Int) := by rw [IntKind.wrap_u64]; omega
        have xn : l[i].name.size < 18446744073709551616 := by omega
        have htp := take_put hlt
        have hl1 := putAll_take_le l (i + 1)
        have hl0 := putAll_take_le l i
        have hlv := congrArg List.length htp
        simp only [List.length_append, be_length, size_toList] at hlv
        have q1 : ¬ 9223372036854775807 < (putAll (l.take i)).length + 1 := by omega
        have q2 : ¬ 9223372036854775807 < (putAll (l.take i)).length + 1 + l[i].name.size := by omega
        have q3 : ¬ 9223372036854775807 < (putAll (l.take i)).length + 1 + l[i].name.size + l[i].putV.length := by omega
        have HTP := Lib.hid htp
        have hmi : l[i].May d := ((mayAll_iff d l).1 HM.out) _ (List.getElem_mem hlt)
        have hs5 : l[i].s.size ≤ 100000 := by
          rw [may_iff] at hmi
          rcases hmi with h | h | h | h | h | h
          all_goals omega
        have hk5 : l[i].kind = 5 → MayT d l[i].sub := by
          intro h5
          rw [may_iff] at hmi
          rcases hmi with h | h | h | h | h | h
          all_goals first | exact h.2.2.2 | (exfalso; omega)
        have HS5 := Lib.hid (And.intro hs5 hk5)
        clear KS hx ht htp hl1 hl0 hlv hmi hs5 hk5
        go_wp2_with fail
        go_region_held3 (fun wx => wx.cell? ⟨b, o + i * 5, none⟩ = some (.string l[i].name) ∧ wx.cell? ⟨b, o + i * 5 + 1, none⟩ = some (.int .i64 l[i].kind) ∧ wx.cell? ⟨b, o + i * 5 + 2, none⟩ = some (.int .i64 l[i].n) ∧ wx.cell? ⟨b, o + i * 5 + 3, none⟩ = some (.string l[i].s) ∧ wx.cell? ⟨b, o + i * 5 + 4, none⟩ = some (.slice a1 l[i].sub.length cap1) ∧ Below wr.heap.size wr wx)
          (first | exact KH.out _ (Below.refl _ _).drew | exact KH.out _ (by assumption))
          (first
            | (go_at_call 30; have hbx := (by assumption : _ ∧ _ ∧ _ ∧ _ ∧ _ ∧ Below _ _ _).2.2.2.2.2; refine (big1 _ xn _).mono ?_; rintro e w2 ⟨rfl, hb2⟩; have hby := hbx.trans (hb2.mono hbx.size); clear hb2 hbx)
            | (go_at_call 46; have hbx := (by assumption : _ ∧ _ ∧ _ ∧ _ ∧ _ ∧ Below _ _ _).2.2.2.2.2; refine (rputV_any l[i] HX.out.k2 a1 cap1 HS5.out.1 _ (fun h5 => ⟨by
                have := HS5.out.2 h5
                have h2 := putAll_le _ l[i].sub (Nat.le_refl _) (d + 1) (fun y hy => by
                  obtain ⟨j, hj, rfl⟩ := List.getElem_of_mem hy
                  exact (this.2.2.1 j hj).2.1) this.2.2.2
                have h3 := HW.out
                rw [putT_length]
                omega, fun w1 hw1 => rputT_any n (by have := HW.out; omega) (by omega) (d + 1) (fun y hy => by
                  obtain ⟨j, hj, rfl⟩ := List.getElem_of_mem hy
                  exact ((HS5.out.2 h5).2.2.1 j hj).2.1) (HS5.out.2 h5).2.2.2 w1 ((HT.out.below hbx).below hw1)⟩)).mono ?_; rintro e w2 ⟨rfl, hb2⟩; have hbz := hbx.trans (hb2.mono hbx.size); clear hb2 hbx))
        rename_i hHeld
        clear hHeld
        have HBZ := Lib.hid (HB.out.trans (hbz.mono HB.out.size))
        rw [cat_four, ← HTP.out]
        clear hbz hby q1 q2 q3
        have hs1 : IntKind.i64.wrap ((i : Int) + 1) = ((i + 1 : Nat) : Int) := by rw [IntWalk.i64_in _ (by omega)]; omega
        go_wp2_with fail
        go_roundg (l.length - (i + 1))
        case measure => omega
        case rel => exact ⟨HBZ.out, i + 1, by omega, rfl, rfl, by first | rfl | (rw [Int.natCast_add]; rfl)⟩
      · have hlti : ¬ (i : Int) < (l.length : Int) := by omega
        obtain rfl : i = l.length := by omega
        rw [List.take_length]
        have hu : IntKind.u64.wrap ((putAll l).length : Int) = ((putAll l).length : Int) := by rw [IntKind.wrap_u64]; omega
        go_wp2_with fail
        refine (big4 (putAll l).length (by omega) _).mono ?_
        rintro e w2 ⟨rfl, hb2⟩
        have HB2 := Lib.hid (HB.out.trans (hb2.mono HB.out.size))
        clear hb2
        go_wp2_with fail
        go_ret
        exact ⟨ret_cat rfl, HB2.out⟩

/-- PutTable of a table that may be. -/
theorem rputTable_any {a : Option Addr} {cap : Nat} {l : List It} (hm : MayT 1 l) (hw : weigh l ≤ 100000) (w : World) (hl : Tb w a cap l) :
    Calls Try.prog 29 #[.slice a l.length cap] w (RPutT l w) :=
  rputT_any _ (Nat.le_refl _) hw 2 (fun y hy => by
    obtain ⟨j, hj, rfl⟩ := List.getElem_of_mem hy
    exact (hm.2.2.1 j hj).2.1) hm.2.2.2 w hl

end Go.Proofs.Ytjnnpgmgjdhfjaa
