/-
  The walk of the law FnReadValue.
-/
import Derived.Test.YtkjhefmjpjpjiaaDoorDraw6
import Derived.Test.YtkjhefmjpjpjiaaDoorRead
namespace Go.Proofs.YtkjhefmjpjpjiaaDoor
open Go.RowKit

theorem rdO_is {n : Int} {s : ByteArray} {k : Nat} (h : rdO n s = some k) : vokB n k = true ∧ ((vtext n k).toList == s.toList) = true := by
  unfold rdO at h
  cases e : inB n 1 6
  · rw [e] at h; simp at h
  · rw [e, if_pos rfl] at h
    have hk := inB_of e
    have h1 := List.find?_some h
    have h2 := List.mem_of_find?_eq_some h
    simp only [List.mem_range] at h2
    exact ⟨vokB_t (by omega), h1⟩

theorem rdI_no {n : Int} {s : ByteArray} (h : rdB n s = false) : rdI n s = -1 := by
  unfold rdB at h; unfold rdI
  cases e : rdO n s with
  | none => rfl
  | some x => rw [e] at h; simp at h

theorem rd_is {n : Int} {s : ByteArray} (h : rdB n s = true) : vokB n (rdI n s) = true ∧ ((vtext n (rdI n s)).toList == s.toList) = true := by
  unfold rdB at h; unfold rdI
  cases e : rdO n s with
  | none => rw [e] at h; simp at h
  | some x => exact rdO_is e

theorem FnReadValue_walk (a0 : Option Addr) (len0 cap0 : Nat) (z0 : List Int) (w : World) (w0 : IsRow .u8 w a0 len0 cap0 z0) :
    Calls Tryd.prog 5 #[.slice a0 len0 cap0] w fun e w' => e = .returned (.bool true) ∧ Below w.heap.size w w' := by
  by_cases hl : (1048576 : Int) < (len0 : Int)
  · clear w0
    go_enter Tryd.func5, Tryd.ntmps5
    go_wp2_with fail
    go_ret
    exact ⟨rfl, Below.refl _ _⟩
  · go_enter Tryd.func5, Tryd.ntmps5
    go_wp2_with fail
    refine (DrawReadValue_any _ _ _ _ _ w0).mono ?_
    rintro e w1 ⟨n, s, rfl, hn1, hn2, hg⟩
    clear w0
    cases hb : rdB n s
    · have hi := rdI_no hb
      go_wp2_with fail
      refine (read_any _ _ _).mono ?_
      rintro e w2 ⟨rfl, hg2⟩
      go_wp2_with fail
      refine (sread_any _ _ _).mono ?_
      rintro e w3 ⟨rfl, hg3⟩
      go_wp2_with (go_at_call 12; refine (alive_any _).mono ?_; rintro e w' ⟨rfl, rfl⟩)
      go_ret
      exact ⟨rfl, below_of (grownBy_trans (grownBy_trans hg hg2) hg3)⟩
    · obtain ⟨h1, h2⟩ := rd_is hb
      go_wp2_with fail
      refine (read_any _ _ _).mono ?_
      rintro e w2 ⟨rfl, hg2⟩
      go_wp2_with fail
      refine (sread_any _ _ _).mono ?_
      rintro e w3 ⟨rfl, hg3⟩
      go_wp2_with (first | (go_at_call 16; refine (vok_any _ _ _).mono ?_; rintro e w' ⟨rfl, rfl⟩) | (go_at_call 13; refine (text_any _ _ _).mono ?_; rintro e w4 ⟨rfl, hg4⟩))
      go_ret
      exact ⟨rfl, below_of (grownBy_trans (grownBy_trans (grownBy_trans hg hg2) hg3) hg4)⟩

end Go.Proofs.YtkjhefmjpjpjiaaDoor
