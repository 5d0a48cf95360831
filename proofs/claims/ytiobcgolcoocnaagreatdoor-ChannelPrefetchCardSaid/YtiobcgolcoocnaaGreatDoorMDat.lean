/-
  Calls as plain data: their parts, which may be, their bytes; no program here.
  letters as a text: what stands first, and the rest.
-/
import Derived.Test.YtiobcgolcoocnaaGreatDoorMem
import Derived.Test.YtiobcgolcoocnaaGreatDoorBy
import Derived.Laws.Strings3

namespace Go.Proofs.YtiobcgolcoocnaaGreatDoor
set_option linter.unusedVariables false

/-- a part's letter. -/
inductive Pt where
  | n | y | e | k | x | c | u | t | f | b | a
  deriving DecidableEq

namespace Pt
def byte : Pt → UInt8 | n => 110 | y => 121 | e => 101 | k => 107 | x => 120 | c => 99 | u => 117 | t => 116 | f => 102 | b => 98 | a => 97
/-- its place among a call's cells. -/
def off : Pt → Nat | n => 1 | y => 2 | e => 3 | k => 4 | x => 5 | c => 6 | u => 7 | t => 8 | f => 9 | b => 10 | a => 11
/-- a text's? -/
def isT : Pt → Bool | n => true | y => true | e => true | k => true | x => true | _ => false
/-- a number's, or a flag's, bytes. -/
def size : Pt → Nat | c => 2 | u => 4 | t => 8 | f => 1 | b => 1 | _ => 0
/-- where a call at g has the text. -/
def at_ (g : Nat) (p : Pt) : Option Addr := if p.isT then some ⟨g, p.off, none⟩ else none
end Pt

structure Me where
  id : Int
  name : ByteArray
  typ : ByteArray
  ex : ByteArray
  key : ByteArray
  text : ByteArray
  code : Int
  count : Int
  tag : Nat
  flag : Bool
  back : Bool
  args : List It

/-- of that Id, with no part. -/
def Me.of (id : Int) : Me := ⟨id, ByteArray.empty, ByteArray.empty, ByteArray.empty, ByteArray.empty, ByteArray.empty, 0, 0, 0, false, false, []⟩

def bitN (b : Bool) : Nat := if b then 1 else 0
/-- 0 and 1 alone. -/
theorem bitN_le (b : Bool) : bitN b ≤ 1 := by cases b <;> decide

def Me.str (m : Me) : Pt → ByteArray
  | .n => m.name | .y => m.typ | .e => m.ex | .k => m.key | .x => m.text | _ => ByteArray.empty
def Me.num (m : Me) : Pt → Nat
  | .c => u64 m.code | .u => u64 m.count | .t => m.tag | .f => bitN m.flag | .b => bitN m.back | _ => 0
/-- m with that part of s. -/
def Me.put (m : Me) (p : Pt) (s : Me) : Me :=
  match p with
  | .n => { m with name := s.name } | .y => { m with typ := s.typ } | .e => { m with ex := s.ex } | .k => { m with key := s.key } | .x => { m with text := s.text }
  | .c => { m with code := s.code } | .u => { m with count := s.count } | .t => { m with tag := s.tag } | .f => { m with flag := s.flag } | .b => { m with back := s.back } | .a => { m with args := s.args }
def Me.cut (m : Me) (p : Pt) : Me := m.put p (Me.of 0)
/-- that number, or flag, laid. -/
def Me.set (m : Me) (p : Pt) (v : Nat) : Me :=
  match p with
  | .c => { m with code := sgn64 v } | .u => { m with count := sgn64 v } | .t => { m with tag := v } | .f => { m with flag := v == 1 } | .b => { m with back := v == 1 } | _ => m
/-- that text laid. -/
def Me.lay (m : Me) (p : Pt) (s : ByteArray) : Me :=
  match p with
  | .n => { m with name := s } | .y => { m with typ := s } | .e => { m with ex := s } | .k => { m with key := s } | .x => { m with text := s } | _ => m

/-- a part's bytes. -/
def Me.enc (m : Me) : Pt → List UInt8
  | .n => be 1 m.name.size ++ m.name.data.toList | .y => be 1 m.typ.size ++ m.typ.data.toList | .e => be 1 m.ex.size ++ m.ex.data.toList | .k => be 1 m.key.size ++ m.key.data.toList | .x => be 1 m.text.size ++ m.text.data.toList
  | .c => be 2 (u64 m.code) | .u => be 4 (u64 m.count) | .t => be 8 m.tag | .f => be 1 (bitN m.flag) | .b => be 1 (bitN m.back) | .a => putT m.args
theorem Me.enc_str (m : Me) {p : Pt} (h : p.isT = true) : m.enc p = be 1 (m.str p).size ++ (m.str p).data.toList := by cases p <;> first | rfl | cases h
theorem Me.enc_num (m : Me) {p : Pt} (h : p.isT = false) (ha : p ≠ .a) : m.enc p = be p.size (m.num p) := by cases p <;> first | rfl | exact absurd rfl ha | cases h

/-- a part may be. -/
def Me.MayP (m : Me) : Pt → Prop
  | .n => m.name.size ≤ 255 | .y => m.typ.size ≤ 255 | .e => m.ex.size ≤ 255 | .k => m.key.size ≤ 255 | .x => m.text.size ≤ 255
  | .c => u64 m.code < 65536 | .u => u64 m.count < 4294967296 | .t => m.tag < 18446744073709551616 | .f => True | .b => True | .a => MayT 1 m.args
theorem Me.may_str (m : Me) {p : Pt} (h : p.isT = true) : m.MayP p ↔ (m.str p).size ≤ 255 := by cases p <;> first | rfl | cases h
/-- a part is 0, or empty. -/
def Me.No (m : Me) : Pt → Prop
  | .n => m.name = ByteArray.empty | .y => m.typ = ByteArray.empty | .e => m.ex = ByteArray.empty | .k => m.key = ByteArray.empty | .x => m.text = ByteArray.empty
  | .c => m.code = 0 | .u => m.count = 0 | .t => m.tag = 0 | .f => m.flag = false | .b => m.back = false | .a => m.args = []
/-- two calls have that part the same. -/
def Me.Sm (m s : Me) : Pt → Prop
  | .n => m.name = s.name | .y => m.typ = s.typ | .e => m.ex = s.ex | .k => m.key = s.key | .x => m.text = s.text
  | .c => m.code = s.code | .u => m.count = s.count | .t => m.tag = s.tag | .f => m.flag = s.flag | .b => m.back = s.back | .a => m.args = s.args
theorem Me.ext' {m s : Me} (hi : m.id = s.id) (h : ∀ p, m.Sm s p) : m = s := by
  have h1 := h .n; have h2 := h .y; have h3 := h .e; have h4 := h .k; have h5 := h .x; have h6 := h .c; have h7 := h .u; have h8 := h .t; have h9 := h .f; have h10 := h .b; have h11 := h .a
  cases m; cases s
  simp only [Me.Sm] at *
  simp_all

/-- what a number's kinds hold. -/
structure Me.Wf (m : Me) : Prop where
  id : -9223372036854775808 ≤ m.id ∧ m.id ≤ 9223372036854775807
  s1 : m.name.size ≤ maxLen
  s2 : m.typ.size ≤ maxLen
  s3 : m.ex.size ≤ maxLen
  s4 : m.key.size ≤ maxLen
  s5 : m.text.size ≤ maxLen
  code : -9223372036854775808 ≤ m.code ∧ m.code ≤ 9223372036854775807
  count : -9223372036854775808 ≤ m.count ∧ m.count ≤ 9223372036854775807
  tag : m.tag < 18446744073709551616
  fits : Fits m.args

theorem Me.num_lt {m : Me} (h : m.Wf) (p : Pt) : m.num p < 18446744073709551616 := by
  have ht := h.tag
  have hb := bitN_le m.flag
  have hc := bitN_le m.back
  have hd : ∀ n : Int, u64 n < 18446744073709551616 := fun n => by unfold u64; omega
  cases p <;> simp only [Me.num] <;> first | exact hd _ | omega
theorem Me.str_len {m : Me} (h : m.Wf) (p : Pt) : (m.str p).size ≤ maxLen := by
  have h0 : (ByteArray.empty).size ≤ maxLen := by decide
  cases p <;> simp only [Me.str] <;> first | exact h.s1 | exact h.s2 | exact h.s3 | exact h.s4 | exact h.s5 | exact h0

/-- the Ids, and their parts. -/
def partsTab : List (Int × List Pt) :=
  [(2010, []), (2011, []), (2041, []), (4011, []), (5021, []), (6011, []), (6072, []), (8510, []), (8511, []), (9010, []), (9011, []), (9020, []), (9021, []), (9030, []), (9031, []),
   (2040, [.c, .x]), (4010, [.n, .y]), (5010, [.n]), (6070, [.n]), (5011, [.n, .u]), (5020, [.n, .e, .k, .a]), (6010, [.u]), (6020, [.n, .x]), (6021, [.x]), (6040, [.e, .k, .f]),
   (6050, [.c, .x, .e, .k]), (6060, [.x, .t, .f, .e, .k]), (6071, [.t, .f, .e, .k, .u]), (6080, [.t, .f]), (6090, [.t, .f]), (6120, [.t, .f, .b])]
/-- the parts of that Id. -/
def partsOf (id : Int) : Option (List Pt) := partsTab.lookup id
/-- letters, as a text. -/
def ltr (l : List Pt) : ByteArray := ⟨(l.map Pt.byte).toArray⟩
def partsStr (id : Int) : ByteArray := match partsOf id with | some l => ltr l | none => ⟨#[45]⟩
@[simp] theorem ltr_size (l : List Pt) : (ltr l).size = l.length := by simp [ltr, ByteArray.size]

/-- at most five, all unlike, Args last; and the Id's range. -/
theorem partsOf_some {id : Int} {l : List Pt} (h : partsOf id = some l) : l.length ≤ 5 ∧ l.Nodup ∧ (∀ i, (hi : i < l.length) → l[i] = .a → i + 1 = l.length) ∧ 2010 ≤ id ∧ id ≤ 9031 := by
  have hm : (id, l) ∈ partsTab := by
    unfold partsOf at h
    revert h
    generalize partsTab = tab
    induction tab with
    | nil => intro h; cases h
    | cons e r ih =>
      intro h
      obtain ⟨k, v⟩ := e
      rw [List.lookup_cons] at h
      split at h
      · rename_i he
        obtain rfl := Option.some.inj h
        obtain rfl : id = k := by simpa using he
        simp
      · exact List.mem_cons_of_mem _ (ih h)
  have hall : ∀ e ∈ partsTab, e.2.length ≤ 5 ∧ e.2.Nodup ∧ (∀ i, (hi : i < e.2.length) → e.2[i] = .a → i + 1 = e.2.length) ∧ 2010 ≤ e.1 ∧ e.1 ≤ 9031 := by decide
  exact hall _ hm
theorem partsOf_none {id : Int} (h : ∀ e ∈ partsTab, ¬ id = e.1) : partsOf id = none := by
  unfold partsOf
  rw [List.lookup_eq_none_iff]
  intro e he
  simpa using h e he

/-! ### which may be -/
def mayL (m : Me) : List Pt → Prop
  | [] => m = Me.of m.id
  | p :: r => m.MayP p ∧ mayL (m.cut p) r
def MayM (m : Me) : Prop := ∃ l, partsOf m.id = some l ∧ mayL m l

@[simp] theorem Me.cut_id (m : Me) (p : Pt) : (m.cut p).id = m.id := by cases p <;> rfl
@[simp] theorem Me.put_id (m : Me) (p : Pt) (s : Me) : (m.put p s).id = m.id := by cases p <;> rfl
theorem Me.put_eq (m : Me) (p : Pt) (s : Me) : (m.put p s).Sm s p := by cases p <;> rfl
theorem Me.put_ne (m : Me) {p q : Pt} (s : Me) (h : q ≠ p) : (m.put p s).Sm m q := by cases p <;> cases q <;> first | rfl | exact absurd rfl h
theorem Me.Sm.may {m s : Me} {p : Pt} (h : m.Sm s p) : m.MayP p ↔ s.MayP p := by cases p <;> simp only [Me.Sm] at h <;> simp only [Me.MayP, h]
theorem Me.Sm.no {m s : Me} {p : Pt} (h : m.Sm s p) : m.No p ↔ s.No p := by cases p <;> simp only [Me.Sm] at h <;> simp only [Me.No, h]
theorem Me.Sm.enc {m s : Me} {p : Pt} (h : m.Sm s p) : m.enc p = s.enc p := by cases p <;> simp only [Me.Sm] at h <;> simp only [Me.enc, h]
theorem Me.Sm.symm {m s : Me} {p : Pt} (h : m.Sm s p) : s.Sm m p := by cases p <;> exact (show _ = _ from h).symm
theorem Me.Sm.trans {m s r : Me} {p : Pt} (h : m.Sm s p) (k : s.Sm r p) : m.Sm r p := by cases p <;> exact (show _ = _ from h).trans k
theorem Me.Sm.refl (m : Me) (p : Pt) : m.Sm m p := by cases p <;> rfl
theorem Me.of_no (id : Int) (p : Pt) : (Me.of id).No p := by cases p <;> rfl
theorem Me.no_eq {m s : Me} {p : Pt} (h : m.No p) (k : s.No p) : m.Sm s p := by cases p <;> exact (show _ = _ from h).trans (show _ = _ from k).symm
theorem Me.cut_no (m : Me) (p : Pt) : (m.cut p).No p := ((m.put_eq p (Me.of 0)).no).2 (Me.of_no 0 p)
theorem Me.no_may {m : Me} {p : Pt} (h : m.No p) : m.MayP p := by
  cases p <;> simp only [Me.No] at h <;> simp only [Me.MayP, h]
  all_goals first
    | decide
    | exact ⟨by decide, by decide, fun i hi => by simp at hi, (mayAll_iff _ _).2 (by simp)⟩
theorem Me.of_iff (m : Me) : m = Me.of m.id ↔ ∀ p, m.No p :=
  ⟨fun h p => by rw [h]; exact Me.of_no _ p, fun h => Me.ext' rfl fun p => Me.no_eq (h p) (Me.of_no _ p)⟩

theorem mayL_iff : ∀ (l : List Pt) (m : Me), l.Nodup → (mayL m l ↔ (∀ p ∈ l, m.MayP p) ∧ ∀ p, p ∉ l → m.No p)
  | [], m, _ => by simp [mayL, Me.of_iff m]
  | p :: r, m, hd => by
    obtain ⟨hp, hr⟩ := List.nodup_cons.1 hd
    rw [mayL, mayL_iff r (m.cut p) hr]
    constructor
    · rintro ⟨h1, h2, h3⟩
      refine ⟨fun q hq => ?_, fun q hq => ?_⟩
      · rcases List.mem_cons.1 hq with rfl | hr2
        · exact h1
        · exact (m.put_ne (Me.of 0) (by rintro rfl; exact hp hr2)).may.1 (h2 q hr2)
      · have hqp : q ≠ p := fun e => hq (by simp [e])
        exact (m.put_ne (Me.of 0) hqp).no.1 (h3 q fun h => hq (by simp [h]))
    · rintro ⟨h1, h2⟩
      refine ⟨h1 p (by simp), fun q hq => ?_, fun q hq => ?_⟩
      · exact (m.put_ne (Me.of 0) (by rintro rfl; exact hp hq)).may.2 (h1 q (by simp [hq]))
      · by_cases hqp : q = p
        · subst hqp; exact m.cut_no q
        · exact (m.put_ne (Me.of 0) hqp).no.2 (h2 q (by simp [hqp, hq]))
theorem mayM_iff {m : Me} {l : List Pt} (h : partsOf m.id = some l) : MayM m ↔ (∀ p ∈ l, m.MayP p) ∧ ∀ p, p ∉ l → m.No p := by
  rw [← mayL_iff l m (partsOf_some h).2.1]
  constructor
  · rintro ⟨l', h1, h2⟩
    rw [h] at h1
    obtain rfl := Option.some.inj h1
    exact h2
  · exact fun h2 => ⟨l, h, h2⟩
theorem mayM_all {m : Me} (h : MayM m) (p : Pt) : m.MayP p := by
  obtain ⟨l, hl, h2⟩ := h
  have := (mayM_iff hl).1 ⟨l, hl, h2⟩
  by_cases hp : p ∈ l
  · exact this.1 p hp
  · exact Me.no_may (this.2 p hp)

/-! ### bytes -/
def encL (m : Me) : List Pt → List UInt8
  | [] => []
  | p :: r => m.enc p ++ encL m r
def headM (id : Int) : List UInt8 := be 2 (id / 100).toNat ++ be 2 (id % 100).toNat
@[simp] theorem headM_length (id : Int) : (headM id).length = 4 := by simp [headM]
def putM (m : Me) : List UInt8 := headM m.id ++ encL m ((partsOf m.id).getD [])
theorem putM_eq {m : Me} {l : List Pt} (h : partsOf m.id = some l) : putM m = headM m.id ++ encL m l := by unfold putM; rw [h]; rfl
theorem encL_append (m : Me) (l r : List Pt) : encL m (l ++ r) = encL m l ++ encL m r := by
  induction l with
  | nil => rfl
  | cons p l ih => simp [encL, ih]
theorem encL_congr {m s : Me} {l : List Pt} (h : ∀ p ∈ l, m.Sm s p) : encL m l = encL s l := by
  induction l with
  | nil => rfl
  | cons p r ih => rw [encL, encL, (h p (by simp)).enc, ih fun q hq => h q (by simp [hq])]

/-- a call that may be, and whose table is not too long. -/
structure Good (m : Me) : Prop where
  may : MayM m
  wf : m.Wf
  few : (putT m.args).length ≤ 3000

theorem Me.enc_le {m : Me} (h : (putT m.args).length ≤ 3000) {p : Pt} (hp : m.MayP p) : (m.enc p).length ≤ 3000 := by
  have hs : ∀ s : ByteArray, s.data.toList.length = s.size := size_toList
  cases p <;> simp only [Me.MayP] at hp <;> simp only [Me.enc, List.length_append, be_length, hs] <;> omega
theorem encL_le {m : Me} (h : (putT m.args).length ≤ 3000) {l : List Pt} (hp : ∀ p ∈ l, m.MayP p) : (encL m l).length ≤ 3000 * l.length := by
  induction l with
  | nil => simp [encL]
  | cons p r ih =>
    have h1 := Me.enc_le h (hp p (by simp))
    have h2 := ih fun q hq => hp q (by simp [hq])
    rw [encL, List.length_append, List.length_cons]
    omega

theorem be_inj {k a b : Nat} (ha : a < 256 ^ k) (hb : b < 256 ^ k) (h : be k a = be k b) : a = b := by
  have := congrArg de h
  rwa [de_be, de_be, Nat.mod_eq_of_lt ha, Nat.mod_eq_of_lt hb] at this
theorem be_app {k a b : Nat} {x y : List UInt8} (ha : a < 256 ^ k) (hb : b < 256 ^ k) (h : be k a ++ x = be k b ++ y) : a = b ∧ x = y := by
  obtain ⟨h1, h2⟩ := List.append_inj h (by simp)
  exact ⟨be_inj ha hb h1, h2⟩
theorem str_app {s t : ByteArray} {x y : List UInt8} (hs : s.size ≤ 255) (ht : t.size ≤ 255) (h : be 1 s.size ++ s.data.toList ++ x = be 1 t.size ++ t.data.toList ++ y) : s = t ∧ x = y := by
  rw [List.append_assoc, List.append_assoc] at h
  obtain ⟨h1, h2⟩ := be_app (by omega) (by omega) h
  obtain ⟨h3, h4⟩ := List.append_inj h2 (by simpa using h1)
  refine ⟨?_, h4⟩
  obtain ⟨⟨s⟩⟩ := s
  obtain ⟨⟨t⟩⟩ := t
  rw [show s = t from h3]
theorem putT_app {l m : List It} {x y : List UInt8} (hl : MayT 1 l) (hm : MayT 1 m) (hwl : Fits l) (hwm : Fits m) (h1 : (putT l).length ≤ 3000) (h2 : (putT m).length ≤ 3000) (h : putT l ++ x = putT m ++ y) : l = m ∧ x = y := by
  have h1' := h1
  have h2' := h2
  rw [putT_length] at h1' h2'
  have hn : (putAll l).length = (putAll m).length := by
    unfold putT at h
    rw [List.append_assoc, List.append_assoc] at h
    exact (be_app (k := 4) (by omega) (by omega) h).1
  obtain ⟨h3, h4⟩ := List.append_inj h (by rw [putT_length, putT_length, hn])
  exact ⟨putT_inj hl hm hwl hwm h1 h3, h4⟩

theorem u64_inj {a b : Int} (ha : -9223372036854775808 ≤ a ∧ a ≤ 9223372036854775807) (hb : -9223372036854775808 ≤ b ∧ b ≤ 9223372036854775807) (h : u64 a = u64 b) : a = b := by unfold u64 at h; omega
theorem bitN_inj {a b : Bool} (h : bitN a = bitN b) : a = b := by cases a <;> cases b <;> first | rfl | (exact absurd h (by decide))
theorem bitN_lt (b : Bool) : bitN b < 256 ^ 1 := by have := bitN_le b; omega

/-- one part's bytes are told apart. -/
theorem enc_app {m s : Me} {p : Pt} {x y : List UInt8} (hm : m.MayP p) (hs : s.MayP p) (wm : m.Wf) (ws : s.Wf) (fm : (putT m.args).length ≤ 3000) (fs : (putT s.args).length ≤ 3000) (h : m.enc p ++ x = s.enc p ++ y) : m.Sm s p ∧ x = y := by
  cases p <;> simp only [Me.MayP] at hm hs <;> simp only [Me.enc] at h <;> simp only [Me.Sm]
  · exact str_app hm hs h
  · exact str_app hm hs h
  · exact str_app hm hs h
  · exact str_app hm hs h
  · exact str_app hm hs h
  · obtain ⟨h1, h2⟩ := be_app (by simpa using hm) (by simpa using hs) h
    exact ⟨u64_inj wm.code ws.code h1, h2⟩
  · obtain ⟨h1, h2⟩ := be_app (by simpa using hm) (by simpa using hs) h
    exact ⟨u64_inj wm.count ws.count h1, h2⟩
  · exact be_app (by simpa using hm) (by simpa using hs) h
  · obtain ⟨h1, h2⟩ := be_app (bitN_lt _) (bitN_lt _) h
    exact ⟨bitN_inj h1, h2⟩
  · obtain ⟨h1, h2⟩ := be_app (bitN_lt _) (bitN_lt _) h
    exact ⟨bitN_inj h1, h2⟩
  · exact putT_app hm hs wm.fits ws.fits fm fs h
theorem encL_app {m s : Me} (wm : m.Wf) (ws : s.Wf) (fm : (putT m.args).length ≤ 3000) (fs : (putT s.args).length ≤ 3000) : ∀ {l : List Pt} {x y : List UInt8}, (∀ p ∈ l, m.MayP p) → (∀ p ∈ l, s.MayP p) → encL m l ++ x = encL s l ++ y → (∀ p ∈ l, m.Sm s p) ∧ x = y
  | [], x, y, _, _, h => ⟨by simp, by simpa [encL] using h⟩
  | p :: r, x, y, h1, h2, h => by
    rw [encL, encL, List.append_assoc, List.append_assoc] at h
    obtain ⟨h3, h4⟩ := enc_app (h1 p (by simp)) (h2 p (by simp)) wm ws fm fs h
    obtain ⟨h5, h6⟩ := encL_app wm ws fm fs (fun q hq => h1 q (by simp [hq])) (fun q hq => h2 q (by simp [hq])) h4
    refine ⟨fun q hq => ?_, h6⟩
    rcases List.mem_cons.1 hq with rfl | hq
    · exact h3
    · exact h5 q hq

theorem headM_inj {i j : Int} (hi : 0 ≤ i ∧ i ≤ 65535) (hj : 0 ≤ j ∧ j ≤ 65535) (h : headM i = headM j) : i = j := by
  unfold headM at h
  obtain ⟨h1, h2⟩ := be_app (k := 2) (by omega) (by omega) h
  have h3 := be_inj (k := 2) (by omega) (by omega) h2
  omega
/-- calls' bytes are told apart, also at the beginning of others. -/
theorem putM_app {m s : Me} {x y : List UInt8} (gm : Good m) (gs : Good s) (h : putM m ++ x = putM s ++ y) : m = s ∧ x = y := by
  obtain ⟨l, hl, _⟩ := gm.may
  obtain ⟨k, hk, _⟩ := gs.may
  have hl5 := partsOf_some hl
  have hk5 := partsOf_some hk
  rw [putM_eq hl, putM_eq hk, List.append_assoc, List.append_assoc] at h
  obtain ⟨h1, h2⟩ := List.append_inj h (by simp)
  have hid := headM_inj ⟨by omega, by omega⟩ ⟨by omega, by omega⟩ h1
  rw [hid, hk] at hl
  obtain rfl := Option.some.inj hl
  have a1 := (mayM_iff (by rw [hid]; exact hk)).1 gm.may
  have a2 := (mayM_iff hk).1 gs.may
  obtain ⟨h3, h4⟩ := encL_app gm.wf gs.wf gm.few gs.few a1.1 a2.1 h2
  refine ⟨Me.ext' hid fun p => ?_, h4⟩
  by_cases hp : p ∈ k
  · exact h3 p hp
  · exact Me.no_eq (a1.2 p hp) (a2.2 p hp)
theorem putM_inj {m s : Me} (gm : Good m) (gs : Good s) (h : putM m = putM s) : m = s := (putM_app (x := []) (y := []) gm gs (by simpa using h)).1

/-! ### what stands at the beginning -/
/-- the Id that four bytes tell, and its parts. -/
def idOf (b : List UInt8) : Int := (de (b.take 2) * 100 + de ((b.drop 2).take 2) : Nat)
def HeadOk (b : List UInt8) (l : List Pt) : Prop := 4 ≤ b.length ∧ de ((b.drop 2).take 2) < 100 ∧ partsOf (idOf b) = some l
theorem head_of {b : List UInt8} {l : List Pt} (h : HeadOk b l) : b = headM (idOf b) ++ b.drop 4 := by
  obtain ⟨h1, h2, h3⟩ := h
  have a1 : (b.take 2).length = 2 := by simp; omega
  have a2 : ((b.drop 2).take 2).length = 2 := by simp; omega
  have b1 := be_de (b.take 2)
  have b2 := be_de ((b.drop 2).take 2)
  rw [a1] at b1
  rw [a2] at b2
  have e1 : (idOf b / 100).toNat = de (b.take 2) := by unfold idOf; omega
  have e2 : (idOf b % 100).toNat = de ((b.drop 2).take 2) := by unfold idOf; omega
  unfold headM
  rw [e1, e2, b1, b2, List.append_assoc]
  have : b.drop 4 = (b.drop 2).drop 2 := by rw [List.drop_drop]
  rw [this, List.take_append_drop, List.take_append_drop]
theorem head_put {i : Int} {l : List Pt} (h : partsOf i = some l) (x : List UInt8) : HeadOk (headM i ++ x) l ∧ idOf (headM i ++ x) = i ∧ (headM i ++ x).drop 4 = x := by
  have hr := partsOf_some h
  have t1 : (headM i ++ x).take 2 = be 2 (i / 100).toNat := by unfold headM; rw [List.append_assoc]; exact List.take_left' (by simp)
  have t2 : ((headM i ++ x).drop 2).take 2 = be 2 (i % 100).toNat := by
    unfold headM
    rw [List.append_assoc, List.drop_left' (by simp)]
    exact List.take_left' (by simp)
  have hid : idOf (headM i ++ x) = i := by
    unfold idOf
    rw [t1, t2, de_be, de_be, Nat.mod_eq_of_lt (by omega), Nat.mod_eq_of_lt (by omega)]
    omega
  refine ⟨⟨by simp, ?_, by rw [hid]; exact h⟩, hid, List.drop_left' (by simp)⟩
  rw [t2, de_be, Nat.mod_eq_of_lt (by omega)]
  omega

end Go.Proofs.YtiobcgolcoocnaaGreatDoor

namespace Go.Proofs.YtiobcgolcoocnaaGreatDoor
open Go.RowKit
set_option linter.unusedVariables false

theorem ltr_index (l : List Pt) (k : Nat) (h : k < l.length) (w : World) : (Instr.index 9 (.string (ltr l)) (.int .i64 k)).run Tryz.prog w = .ok (.int .u8 (l[k].byte.toNat)) w := by
  rw [run_index_string w _ _ _ _ Tryz.underlying9, dif_pos ⟨by omega, by rw [ltr_size]; omega⟩]
  have : (ltr l)[(k : Int).toNat]'(by rw [ltr_size]; omega) = l[k].byte := by
    simp [ltr, ByteArray.getElem_eq_getElem_data]
  rw [this]
theorem ltr_slice (p : Pt) (r : List Pt) (w : World) : (Instr.slice 9 (.string (ltr (p :: r))) (some (.int .i64 1)) none none).run Tryz.prog w = .ok (.string (ltr r)) w := by
  rw [run_slice_string_from_if w _ _ _ _ Tryz.underlying9, if_pos ⟨by omega, by rw [ltr_size]; simp; omega⟩]
  have : (ltr (p :: r)).extract (1 : Int).toNat (ltr (p :: r)).size = ltr r := by
    have hz : (ltr (p :: r)).size = (r.map Pt.byte).length + 1 := by rw [ltr_size]; simp
    apply ByteArray.ext
    rw [hz]
    simp [ltr, ByteArray.data_extract]
    exact List.take_of_length_le (by simp)
  rw [this]
theorem ltr_list (l : List Pt) : (ltr l).toList = l.map Pt.byte := by unfold ltr; simp
theorem ltr_dash (l : List Pt) : ¬ (ltr l).toList = [45] ∧ ((ltr l).toList == [45]) = false := by
  have h : ¬ (ltr l).toList = [45] := by
    rw [ltr_list]
    intro h
    match l, h with
    | [p], h => cases p <;> exact absurd h (by decide)
    | p :: q :: r, h => simp at h
    | [], h => simp at h
  exact ⟨h, by rw [beq_eq_false_iff_ne]; exact h⟩

theorem ltr_nil : ltr [] = ⟨#[]⟩ := rfl
theorem ltr_cons (p : Pt) (r : List Pt) : ¬ (ltr (p :: r)).toList = [] ∧ ((ltr (p :: r)).toList == []) = false ∧ (ltr (p :: r)).toList.isEmpty = false := by
  rw [ltr_list]
  exact ⟨by simp, rfl, rfl⟩

end Go.Proofs.YtiobcgolcoocnaaGreatDoor
