/-
  impl's TableOk and nineOf: a table that was handed over is copied into an array. No condition but that it can be read.
-/
import Derived.Test.YtbhfbpmfbknalaaTNine
import Derived.Laws.IdiomCopy
import Derived.BigRegion
namespace Go.Proofs.Ytbhfbpmfbknalaa
open Go.RowKit

theorem vok2 (v : Int) : vokB 2 v = inB v 0 2 := by
  unfold vokB inB
  simp

theorem tok1_any (v : Int) (w : World) :
    Calls Try.prog 44 #[.int .i64 v] w fun e w' => e = .returned (.bool (!inB v 0 2)) ∧ w = w' := by
  rw [← vok2]
  go_enter Try.func44, Try.ntmps44
  go_wp2_with (go_at_call 45; refine (vok_any _ _ _).mono ?_; rintro e w' ⟨rfl, rfl⟩)
  go_ret
  exact ⟨rfl, rfl⟩

theorem in2_no {l : List Int} {k : Nat} (hk : k < l.length) (h : inB (l.getD k 0) 0 2 = false) : (l.all fun x => inB x 0 2) = false := by
  rw [List.all_eq_false]
  refine ⟨l[k], List.getElem_mem hk, ?_⟩
  rw [List.getD_eq_getElem?_getD, List.getElem?_eq_getElem hk, Option.getD_some] at h
  rw [h]; simp
theorem in2_yes {l : List Int} (h : ∀ j, j < l.length → inB (l.getD j 0) 0 2 = true) : (l.all fun x => inB x 0 2) = true := by
  rw [List.all_eq_true]
  intro x hx
  obtain ⟨j, hj, rfl⟩ := List.mem_iff_getElem.1 hx
  have := h j hj
  rwa [List.getD_eq_getElem?_getD, List.getElem?_eq_getElem hj, Option.getD_some] at this

def TixPost (xs : List Int) (w : World) (e : Ending) (w' : World) : Prop := ∃ r : Int, e = .returned (.int .i64 r) ∧ decide (r ≥ 0) = (!xs.all fun x => inB x 0 2) ∧ w = w'

set_option maxHeartbeats 1000000 in
theorem tix_any (a : Option Addr) (cap : Nat) (xs : List Int) (w : World) (h : IntsAt w a xs) :
    Calls Try.prog 67 #[.slice a xs.length cap, .func (.func 44) #[] #[]] w (TixPost xs w) := by
  have hm := h.1
  unfold maxLen at hm
  have H := Lib.hid h
  clear h
  go_enter Try.func67, Try.ntmps67
  go_wp2_with fail
  go_loopw [8] (fun i wr => TkRel xs w i wr) (fun i _ => xs.length - (intOf i).toNat)
  case atStart => exact ⟨0, by omega, rfl, fun j hj => absurd hj (by omega), rfl⟩
  case round =>
    obtain ⟨k, hk, rfl, hb, rfl⟩ := hrel
    have Hb := Lib.hid hb
    clear hb
    by_cases hlt : k < xs.length
    · rcases H.out.2 with h0 | ⟨bx, ox, rfl, hbx, hcx⟩
      · rw [h0] at hlt; simp at hlt
      have hc := hcx k hlt
      clear hcx hbx
      have c1 := fun w => tok1_any (xs.getD k 0) w
      cases hv : inB (xs.getD k 0) 0 2
      · have hz := Lib.hid (in2_no hlt hv)
        generalize xs.getD k 0 = q at *
        go_wp2_with (go_at_call 44; refine (c1 _).mono ?_; rintro e w' ⟨rfl, rfl⟩)
        go_ret
        exact ⟨_, rfl, by rw [hz.out]; exact decide_eq_true (by omega), rfl⟩
      · have hn : Hid (∀ j, j < k + 1 → inB (xs.getD j 0) 0 2 = true) := fun j hj => by
          by_cases e : j = k
          · rw [e]; exact hv
          · exact Hb.out j (by omega)
        generalize xs.getD k 0 = q at *
        go_wp2_with (go_at_call 44; refine (c1 _).mono ?_; rintro e w' ⟨rfl, rfl⟩)
        go_roundw
        case rel => exact ⟨k + 1, by omega, by go_num, hn.out, rfl⟩
        case measure => simp [intOf]; omega
    · obtain rfl : k = xs.length := by omega
      have hz := Lib.hid (in2_yes Hb.out)
      go_wp2_with fail
      go_ret
      exact ⟨_, rfl, by rw [hz.out]; rfl, rfl⟩

theorem thas_any (a : Option Addr) (cap : Nat) (xs : List Int) (w : World) (h : IntsAt w a xs) :
    Calls Try.prog 43 #[.slice a xs.length cap, .func (.func 44) #[] #[]] w fun e w' => e = .returned (.bool (!xs.all fun x => inB x 0 2)) ∧ w = w' := by
  have c1 := tix_any a cap xs w h
  clear h
  go_enter Try.func43, Try.ntmps43
  go_wp2_with fail
  refine c1.mono ?_
  rintro e w' ⟨r, rfl, hr, rfl⟩
  clear c1
  go_wp2_with fail
  go_ret
  exact ⟨by rw [← hr]; rfl, rfl⟩

set_option maxHeartbeats 1000000 in
theorem tok_any (a : Option Addr) (cap : Nat) (xs : List Int) (w : World) (h : IntsAt w a xs) :
    Calls Try.prog 16 #[.agg #[.slice a xs.length cap]] w fun e w' => e = .returned (.bool (triB xs)) ∧ w.grownBy w' none := by
  have hm := h.1
  unfold maxLen at hm
  have g0 : w.grownBy (w.alloc (.cells #[.slice a xs.length cap] 25)) none := World.grownBy_alloc _ _ none
  have n0 : (w.alloc (.cells #[.slice a xs.length cap] 25)).cell? ⟨w.heap.size, 0, none⟩ = some (.slice a xs.length cap) := by simp
  have c1 := thas_any a cap xs _ (h.grown g0)
  have G0 := Lib.hid g0
  clear h g0
  by_cases hl : xs.length = 9
  · have ht : triB xs = xs.all fun x => inB x 0 2 := by unfold triB; simp [hl]
    have hn : ((xs.length : Int) != 9) = false := by simp; omega
    rw [ht]
    have HL := Lib.hid hl
    clear hl ht
    go_enter Try.func16, Try.ntmps16
    go_wp2_with fail
    refine c1.mono ?_
    rintro e w' ⟨rfl, rfl⟩
    clear c1
    go_wp2_with fail
    go_ret
    exact ⟨rfl, G0.out⟩
  · have ht : triB xs = false := by unfold triB; simp [hl]
    have hn : ((xs.length : Int) != 9) = true := by simp; omega
    rw [ht]
    clear hl ht
    go_enter Try.func16, Try.ntmps16
    go_wp2_with fail
    go_ret
    exact ⟨rfl, G0.out⟩

end Go.Proofs.Ytbhfbpmfbknalaa
