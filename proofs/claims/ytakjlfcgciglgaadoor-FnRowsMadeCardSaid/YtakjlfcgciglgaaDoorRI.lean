/-
  impl's FarOf, AlikeOf, RowOk, RowFar, RowAlike: the generic functions of the library and of the program, and what they are handed: function literals that read the chain's steps. No condition.
-/
import Derived.Test.YtakjlfcgciglgaaDoorRC
import Derived.Test.YtakjlfcgciglgaaDoorAgn
namespace Go.Proofs.YtakjlfcgciglgaaDoor
open Go.RowKit

/-! Rows. -/
theorem rok1_any (n v : Int) (B : Nat) (w : World) (h : w.cell? ⟨B, 0, none⟩ = some (.int .i64 n)) :
    Calls Tryd.prog 38 #[.int .i64 v, .pointer (some ⟨B, 0, none⟩)] w fun e w' => e = .returned (.bool (!vokB n v)) ∧ w = w' := by
  go_enter Tryd.func38, Tryd.ntmps38
  go_wp2_with (go_at_call 23; refine (vok_any _ _ _).mono ?_; rintro e w' ⟨rfl, rfl⟩)
  go_ret
  exact ⟨rfl, rfl⟩

theorem all_no {n : Int} {l : List Int} {k : Nat} (hk : k < l.length) (h : vokB n (l.getD k 0) = false) : l.all (vokB n) = false := by
  rw [List.all_eq_false]
  refine ⟨l[k], List.getElem_mem hk, ?_⟩
  rw [List.getD_eq_getElem?_getD, List.getElem?_eq_getElem hk, Option.getD_some] at h
  rw [h]; simp
theorem all_yes {n : Int} {l : List Int} (h : ∀ j, j < l.length → vokB n (l.getD j 0) = true) : l.all (vokB n) = true := by
  rw [List.all_eq_true]
  intro x hx
  obtain ⟨j, hj, rfl⟩ := List.mem_iff_getElem.1 hx
  have := h j hj
  rwa [List.getD_eq_getElem?_getD, List.getElem?_eq_getElem hj, Option.getD_some] at this

/-- The place of the first one that is no value, or one below 0: told by its sign alone. -/
def IdxPost (n : Int) (xs : List Int) (w : World) (e : Ending) (w' : World) : Prop := ∃ r : Int, e = .returned (.int .i64 r) ∧ decide (r ≥ 0) = (!xs.all (vokB n)) ∧ w = w'

set_option maxHeartbeats 1000000 in
theorem idx_any (n : Int) (a : Option Addr) (cap : Nat) (xs : List Int) (B : Nat) (w : World) (h : IntsAt w a xs) (hB : w.cell? ⟨B, 0, none⟩ = some (.int .i64 n)) :
    Calls Tryd.prog 45 #[.slice a xs.length cap, .func (.func 38) #[] #[.pointer (some ⟨B, 0, none⟩)]] w (IdxPost n xs w) := by
  have hm := h.1
  unfold maxLen at hm
  have H := Lib.hid h
  have c1 := fun v => rok1_any n v B w hB
  clear h hB
  go_enter Tryd.func45, Tryd.ntmps45
  go_wp2_with fail
  go_loopw [8] (fun i wr => RokRel n xs w i wr) (fun i _ => xs.length - (intOf i).toNat)
  case atStart => exact ⟨0, by omega, rfl, fun j hj => absurd hj (by omega), rfl⟩
  case round =>
    obtain ⟨k, hk, rfl, hb, rfl⟩ := hrel
    have Hb := Lib.hid hb
    clear hb
    by_cases hlt : k < xs.length
    · rcases H.out.2 with h0 | ⟨bx, ox, rfl, hbx, hcx⟩
      · rw [h0] at hlt; simp at hlt
      have hc := hcx k hlt
      clear hcx hbx
      cases hv : vokB n (xs.getD k 0)
      · have hz := Lib.hid (all_no hlt hv)
        generalize xs.getD k 0 = q at *
        go_wp2_with (go_at_call 38; refine (c1 _).mono ?_; rintro e w' ⟨rfl, rfl⟩)
        go_ret
        exact ⟨_, rfl, by rw [hz.out]; exact decide_eq_true (by omega), rfl⟩
      · have hn : Hid (∀ j, j < k + 1 → vokB n (xs.getD j 0) = true) := fun j hj => by
          by_cases e : j = k
          · rw [e]; exact hv
          · exact Hb.out j (by omega)
        generalize xs.getD k 0 = q at *
        go_wp2_with (go_at_call 38; refine (c1 _).mono ?_; rintro e w' ⟨rfl, rfl⟩)
        go_roundw
        case rel => exact ⟨k + 1, by omega, by go_num, hn.out, rfl⟩
        case measure => simp [intOf]; omega
    · obtain rfl : k = xs.length := by omega
      have hz := Lib.hid (all_yes Hb.out)
      go_wp2_with fail
      go_ret
      exact ⟨_, rfl, by rw [hz.out]; rfl, rfl⟩

theorem has_any (n : Int) (a : Option Addr) (cap : Nat) (xs : List Int) (B : Nat) (w : World) (h : IntsAt w a xs) (hB : w.cell? ⟨B, 0, none⟩ = some (.int .i64 n)) :
    Calls Tryd.prog 37 #[.slice a xs.length cap, .func (.func 38) #[] #[.pointer (some ⟨B, 0, none⟩)]] w fun e w' => e = .returned (.bool (!xs.all (vokB n))) ∧ w = w' := by
  have c1 := idx_any n a cap xs B w h hB
  clear h hB
  go_enter Tryd.func37, Tryd.ntmps37
  go_wp2_with fail
  refine c1.mono ?_
  rintro e w' ⟨r, rfl, hr, rfl⟩
  clear c1
  go_wp2_with fail
  go_ret
  exact ⟨by rw [← hr]; rfl, rfl⟩

theorem rowB_all {n : Int} {l : List Int} (h : 1 ≤ l.length ∧ l.length ≤ 7) : rowB n l = l.all (vokB n) := by
  unfold rowB
  rw [inB_t (n := (l.length : Int)) (by omega), Bool.and_true]
  cases hi : inB n 1 6
  · rw [Bool.false_and]
    refine (all_no (k := 0) (by omega) ?_).symm
    cases hv : vokB n (l.getD 0 0)
    · rfl
    · have := vokB_of hv
      rw [inB_t (by omega)] at hi
      cases hi
  · rw [Bool.true_and]
theorem rowB_len {n : Int} {l : List Int} (h : ¬ (1 ≤ l.length ∧ l.length ≤ 7)) : rowB n l = false := by
  cases e : rowB n l
  · rfl
  · exact absurd (rowB_of e).2.1 h

theorem row_any : RowC := fun n a cap xs w h => by
  have hm := h.1
  unfold maxLen at hm
  by_cases hl : 1 ≤ xs.length ∧ xs.length ≤ 7
  · rw [rowB_all hl]
    have g0 : w.grownBy (w.alloc (.cells #[.int .i64 n] 3)) none := World.grownBy_alloc _ _ none
    have c1 := has_any n a cap xs w.heap.size (w.alloc (.cells #[.int .i64 n] 3)) (h.grown g0) ((BlkAt.new w #[.int .i64 n] 3).cell rfl)
    have l1 : ¬ ((xs.length : Int) < 1) := by omega
    have l2 : ¬ ((7 : Int) < (xs.length : Int)) := by omega
    clear h
    go_enter Tryd.func24, Tryd.ntmps24
    go_wp2_with fail
    refine c1.mono ?_
    rintro e w' ⟨rfl, rfl⟩
    clear c1
    go_wp2_with fail
    go_ret
    exact ⟨rfl, g0⟩
  · rw [rowB_len hl]
    clear h
    by_cases l1 : (xs.length : Int) < 1
    · go_enter Tryd.func24, Tryd.ntmps24
      go_wp2_with fail
      go_ret
      exact ⟨rfl, World.grownBy_alloc _ _ none⟩
    · have l2 : (7 : Int) < (xs.length : Int) := by omega
      go_enter Tryd.func24, Tryd.ntmps24
      go_wp2_with fail
      go_ret
      exact ⟨rfl, World.grownBy_alloc _ _ none⟩

theorem rowok_w {n : Int} {a : Option Addr} {cap : Nat} {xs : List Int} {v : Bool} (h : rowB n xs = v) (w : World) (hx : IntsAt w a xs) :
    Calls Tryd.prog 24 #[.int .i64 n, .slice a xs.length cap] w fun e w' => e = .returned (.bool v) ∧ w.grownBy w' none := by rw [← h]; exact row_any n a cap xs w hx

def FoRel (f : Nat → Int) (x : List Int) (w : World) (s i : Value) (wr : World) : Prop := ∃ k : Nat, k ≤ x.length ∧ i = .int .i64 k ∧ s = .int .i64 (f k) ∧ w = wr

end Go.Proofs.YtakjlfcgciglgaaDoor
