/-
  Declare and Bind as functions of plain data; Few.
-/
import Derived.Test.YtlghphmehlmehaaDoorRtBind
import Derived.Test.YtlghphmehlmehaaDoorRtQu
namespace Go.Proofs.YtlghphmehlmehaaDoor.Rt
open Go.RowKit Top
set_option linter.unusedVariables false

def declF (x : List Ex) (e : Ex) : List Ex × Int :=
  match fnd e.name x with
  | some i => (x, if x[i]? = some e then 0 else 406)
  | none => if MayR (x ++ [e]) [] then (x ++ [e], 0) else (x, 1)
def bindF (x : List Ex) (l : List Bd) (b : Bd) : List Bd × Int :=
  match fnd b.ex x with
  | none => (l, 404)
  | some _ =>
    match alk b l with
    | some i => (l, if l[i]? = some b then 0 else 406)
    | none => if MayR x (l ++ [b]) then (l ++ [b], 0) else (l, 1)
theorem declF_of {x : List Ex} {e : Ex} {y : List Ex} {c : Int} (h : DeclR x e y c) : declF x e = (y, c) := by
  unfold declF
  rcases h with ⟨i, hi, h1, rfl, rfl⟩ | ⟨h1, h2, rfl, rfl⟩ | ⟨h1, h2, rfl, rfl⟩
  · rw [h1]; simp [List.getElem?_eq_getElem hi]
  · rw [h1]; simp only; rw [if_pos h2]
  · rw [h1]; simp only; rw [if_neg h2]
theorem bindF_of {x : List Ex} {l : List Bd} {b : Bd} {y : List Bd} {c : Int} (h : BindR x l b y c) : bindF x l b = (y, c) := by
  unfold bindF
  rcases h with ⟨h0, rfl, rfl⟩ | ⟨h0, i, hi, h1, rfl, rfl⟩ | ⟨h0, h1, h2, rfl, rfl⟩ | ⟨h0, h1, h2, rfl, rfl⟩
  · rw [h0]
  all_goals obtain ⟨j, hj⟩ := Option.ne_none_iff_exists'.1 h0
  all_goals rw [hj, h1]
  · simp [List.getElem?_eq_getElem hi]
  · simp only; rw [if_pos h2]
  · simp only; rw [if_neg h2]

theorem declare_is (a : Option Addr) (ac : Nat) (x : List Ex) (e : Ex) (y : List Ex) (c : Int) (hF : declF x e = (y, c)) (hl9 : x.length ≤ 100000) (w : World) (hx : XsAt w a ac x) :
    Calls Tryd.prog 13 #[.slice a x.length ac, .agg #[.string ⟨e.name.toArray⟩, .int .i64 e.kind]] w fun r w' => Below w.heap.size w w' ∧ ∃ va vc, r = .returned (.tuple #[.slice va y.length vc, .int .i64 c]) ∧ XsAt w' va vc y := by
  refine (declare_any a ac x e hl9 w hx).mono ?_
  rintro r w' ⟨hb, v, y', c', rfl, hd, hown⟩
  have := declF_of hd
  rw [hF] at this
  injection this with h1 h2
  subst h1 h2
  obtain ⟨va, vc, rfl, hat⟩ := OwnX.at hown
  exact ⟨hb, va, vc, rfl, hat⟩
theorem bind_is (a : Option Addr) (ac : Nat) (x : List Ex) (d : Option Addr) (dc : Nat) (l : List Bd) (b : Bd) (y : List Bd) (c : Int) (hF : bindF x l b = (y, c)) (hl9 : l.length ≤ 100000) (w : World) (hx : XsAt w a ac x) (hl : BsAt w d dc l) :
    Calls Tryd.prog 12 #[.slice a x.length ac, .slice d l.length dc, .agg #[.string ⟨b.ex.toArray⟩, .string ⟨b.q.toArray⟩, .string ⟨b.key.toArray⟩, .int .i64 b.wt]] w fun r w' => Below w.heap.size w w' ∧ ∃ va vc, r = .returned (.tuple #[.slice va y.length vc, .int .i64 c]) ∧ BsAt w' va vc y := by
  refine (bind_any a ac x d dc l b hl9 w hx hl).mono ?_
  rintro r w' ⟨hb, v, y', c', rfl, hd, hown⟩
  have := bindF_of hd
  rw [hF] at this
  injection this with h1 h2
  subst h1 h2
  obtain ⟨va, vc, rfl, hat⟩ := OwnB.at hown
  exact ⟨hb, va, vc, rfl, hat⟩

end Go.Proofs.YtlghphmehlmehaaDoor.Rt
