/-
  What a deed makes of a desk: the model's DeskDo.
-/
import Derived.Test.YtlnffpofbfigaaaDoorDAft
import Derived.Test.YtlnffpofbfigaaaDoorDMade2
import Derived.Test.YtlnffpofbfigaaaDoorDCl
import Derived.Test.YtlnffpofbfigaaaDoorDImp
namespace Go.Proofs.YtlnffpofbfigaaaDoor
open Go.RowKit
/-- The facts that a walk reads. -/
def Facts3 (w' : World) (h : Nat) (d : Dk) (a : Option Addr) (cap : Nat) (dk dn : Int) (dt : ByteArray) : Prop :=
  (w'.cell? ⟨h, 0, none⟩ = some (.int .i64 d.1.1) ∧ w'.cell? ⟨h, 1, none⟩ = some (.string (bs d.1.2)) ∧ w'.cell? ⟨h, 2, none⟩ = some (.slice a d.2.length cap)) ∧ (w'.cell? ⟨h + 1, 0, none⟩ = some (.int .i64 dk) ∧ w'.cell? ⟨h + 1, 1, none⟩ = some (.int .i64 dn) ∧ w'.cell? ⟨h + 1, 2, none⟩ = some (.string dt)) ∧ (w'.cell? ⟨h + 1 + 1, 0, none⟩ = some (.int .i64 0) ∧ w'.cell? ⟨h + 1 + 1, 1, none⟩ = some (.string ⟨#[]⟩) ∧ w'.cell? ⟨h + 1 + 1, 2, none⟩ = some (.slice none 0 0)) ∧ w'.frozen? ⟨h + 1 + 1, 0, none⟩ = false ∧ w'.frozen? ⟨h + 1 + 1, 1, none⟩ = false ∧ w'.frozen? ⟨h + 1 + 1, 2, none⟩ = false
theorem size3 (w : World) (A B C : Obj) : (((w.alloc A).alloc B).alloc C).heap.size = w.heap.size + 3 := by show (((w.heap.push _).push _).push _).size = _; rw [Array.size_push, Array.size_push, Array.size_push]

/-- What is laid behind the copy: the three blocks in the world behind it, and where they lie. -/
def Behind (w2 : World) (h : Nat) (d : Dk) (a : Option Addr) (cap : Nat) (dk dn : Int) (dt : ByteArray) : Prop := Facts3 w2 h d a cap dk dn dt ∧ h < w2.heap.size ∧ h + 1 < w2.heap.size ∧ h + 1 + 1 < w2.heap.size

/-- What l12Made answers with where nothing can be done of it, and where it can. -/
def StayPost (x : Ld) (b : Bool) (w : World) (e : Ending) (w' : World) : Prop := ∃ y : Ld, e = .returned (.tuple #[.agg #[.int .i64 y.1, .string (bs y.2)], .bool b]) ∧ (b = true → y = x) ∧ w.grownBy w' none
theorem made_stay {x : Ld} {a : Dd} (h : newD x a = none) : ∃ b, ∀ w e w', MadePost (rawD x a) w e w' → StayPost x b w e w' := by
  cases hr : rawD x a with
  | none =>
    refine ⟨false, fun w e w' => ?_⟩
    rintro ⟨⟨v, b, rfl, ⟨y, rfl⟩, hb⟩, hg⟩
    change b = false at hb
    subst hb
    exact ⟨y, rfl, by simp, hg⟩
  | some z =>
    by_cases hz : ldB z = true
    · have hx : z = x := by
        by_cases e : z = x
        · exact e
        · rw [newD_mk hr hz e] at h; cases h
      subst hx
      refine ⟨true, fun w e w' => ?_⟩
      rintro ⟨⟨v, b, rfl, _, hb⟩, hg⟩
      obtain ⟨rfl, rfl⟩ := hb.1 hz
      exact ⟨z, rfl, fun _ => rfl, hg⟩
    · refine ⟨false, fun w e w' => ?_⟩
      rintro ⟨⟨v, b, rfl, ⟨y, rfl⟩, hb⟩, hg⟩
      have := hb.2 (by simpa using hz)
      subst this
      exact ⟨y, rfl, by simp, hg⟩
theorem made_new {x y : Ld} {a : Dd} (h : newD x a = some y) {w : World} {e : Ending} {w' : World} (hm : MadePost (rawD x a) w e w') : e = .returned (.tuple #[.agg #[.int .i64 y.1, .string (bs y.2)], .bool true]) ∧ w.grownBy w' none := by
  obtain ⟨h1, h2, _⟩ := newD_of h
  rw [h1] at hm
  obtain ⟨⟨v, b, rfl, _, hb⟩, hg⟩ := hm
  obtain ⟨rfl, rfl⟩ := hb.1 h2
  exact ⟨rfl, hg⟩

/-- No deed 'back', as the walk asks it; or nothing of before. -/
def NoBack (k n : Int) (t : ByteArray) (xs : List Ld) : Prop := (k == 6) = false ∨ (n == 0) = false ∨ t.toList.isEmpty = false ∨ (k = 6 ∧ n = 0 ∧ t = ⟨#[]⟩ ∧ xs = [])

end Go.Proofs.YtlnffpofbfigaaaDoor
