/-
  The draw of AnswerTo: some chain, some values, a set and an answer.
-/
import Derived.Test.YthfikgaghinfbaaLDr2
import Derived.Deep.RegionHeld3
import Derived.IntWalk
namespace Go.Proofs.Ythfikgaghinfbaa
open Go.RowKit

set_option maxRecDepth 100000 in
set_option maxHeartbeats 8000000 in
theorem DrawAnswerTo_any (a : Option Addr) (len cap : Nat) (zs : List Int) (w : World) (h : IsRow .u8 w a len cap zs) :
    Calls Try.prog 21 #[.slice a len cap] w (GAPost w) := by
  go_enter Try.func21, Try.ntmps21
  go_wp2_with fail
  refine (open_draw a len cap zs _ h).mono ?_
  rintro e w1 ⟨rfl, hr1, hg1⟩
  clear h
  go_wp2_with fail
  refine (game_draw 12 _ _ _ hr1 (by omega) (by omega) (by omega)).mono ?_
  rintro e w2 ⟨n, xs, b, cb, rfl, n1, n4, x3, hI, hb, hr2, hg2⟩
  have HI := Lib.hid hI
  have HB := Lib.hid hb
  have HG := Lib.hid (grownBy_own hg1 hg2)
  clear hI hb hg2 hr1
  go_wp2_with fail
  have hl : (xs.length : Int) = 0 ∨ (xs.length : Int) = 1 ∨ (xs.length : Int) = 2 ∨ (xs.length : Int) = 3 := by omega
  have hrd := hr2.kept (w' := w2.drew) fun _ _ => rfl
  have w1' : IntKind.i64.wrap 1 = 1 := IntWalk.i64_in _ (by omega)
  have w2' : IntKind.i64.wrap 2 = 2 := IntWalk.i64_in _ (by omega)
  have w4' : IntKind.i64.wrap 4 = 4 := IntWalk.i64_in _ (by omega)
  have w8' : IntKind.i64.wrap 8 = 8 := IntWalk.i64_in _ (by omega)
  have w16' : IntKind.i64.wrap 16 = 16 := IntWalk.i64_in _ (by omega)
  have w19' : IntKind.i64.wrap 19 = 19 := IntWalk.i64_in _ (by omega)
  rcases hl with hL | hL | hL | hL
  · go_region_held3 (fun _ => True) (exact True.intro) (first | (go_at_call 51; (with_reducible refine (pick_any _ _ _ _ (by assumption) (by omega)).mono ?_); rintro e w3 ⟨k, rfl, k0, k1, hr3, hg3⟩; have q1 : k.tdiv 19 = k / 19 := Int.tdiv_eq_ediv_of_nonneg k0; have q2 : k.tmod 2 = k % 2 := Int.tmod_eq_emod_of_nonneg k0; have q3 : IntKind.i64.wrap (k / 19) = k / 19 := (IntWalk.i64_in _ (by omega)); have q4 : IntKind.i64.wrap (k / 19 * 16) = k / 19 * 16 := (IntWalk.i64_in _ (by omega)); have q5 : IntKind.i64.wrap (k % 2) = k % 2 := (IntWalk.i64_in _ (by omega))))
    all_goals
      have hgg : w2.grownBy w3 (some w.heap.size) := grownBy_trans (grownBy_trans (lundrew (by assumption)) (by assumption)) hg3
      have HI4 := Lib.hid (HI.out.kept hgg (fun x hx e => by have := HB.out x hx; have := Option.some.inj e; omega))
      have HG4 := Lib.hid (grownBy_own HG.out hgg)
      clear hgg
      go_wp2_with fail
      refine bodyPost_ret (lresults4 rfl _ _ _) rfl ⟨n, xs, b, cb, _, _, rfl, n1, n4, x3, HI4.out, ?_, ?_, HG4.out⟩
      · first | (rw [IntWalk.i64_in _ (by omega)]; omega) | omega
      · first | (rw [IntWalk.i64_in _ (by omega)]; omega) | omega
  · go_region_held3 (fun _ => True) (exact True.intro) (first | (go_at_call 51; (with_reducible refine (pick_any _ _ _ _ (by assumption) (by omega)).mono ?_); rintro e w3 ⟨k, rfl, k0, k1, hr3, hg3⟩; have q1 : k.tdiv 19 = k / 19 := Int.tdiv_eq_ediv_of_nonneg k0; have q2 : k.tmod 2 = k % 2 := Int.tmod_eq_emod_of_nonneg k0; have q3 : IntKind.i64.wrap (k / 19) = k / 19 := (IntWalk.i64_in _ (by omega)); have q4 : IntKind.i64.wrap (k / 19 * 16) = k / 19 * 16 := (IntWalk.i64_in _ (by omega)); have q5 : IntKind.i64.wrap (k % 2) = k % 2 := (IntWalk.i64_in _ (by omega))))
    all_goals
      have hgg : w2.grownBy w3 (some w.heap.size) := grownBy_trans (grownBy_trans (lundrew (by assumption)) (by assumption)) hg3
      have HI4 := Lib.hid (HI.out.kept hgg (fun x hx e => by have := HB.out x hx; have := Option.some.inj e; omega))
      have HG4 := Lib.hid (grownBy_own HG.out hgg)
      clear hgg
      go_wp2_with fail
      refine bodyPost_ret (lresults4 rfl _ _ _) rfl ⟨n, xs, b, cb, _, _, rfl, n1, n4, x3, HI4.out, ?_, ?_, HG4.out⟩
      · first | (rw [IntWalk.i64_in _ (by omega)]; omega) | omega
      · first | (rw [IntWalk.i64_in _ (by omega)]; omega) | omega
  · go_region_held3 (fun _ => True) (exact True.intro) (first | (go_at_call 51; (with_reducible refine (pick_any _ _ _ _ (by assumption) (by omega)).mono ?_); rintro e w3 ⟨k, rfl, k0, k1, hr3, hg3⟩; have q1 : k.tdiv 19 = k / 19 := Int.tdiv_eq_ediv_of_nonneg k0; have q2 : k.tmod 4 = k % 4 := Int.tmod_eq_emod_of_nonneg k0; have q3 : IntKind.i64.wrap (k / 19) = k / 19 := (IntWalk.i64_in _ (by omega)); have q4 : IntKind.i64.wrap (k / 19 * 16) = k / 19 * 16 := (IntWalk.i64_in _ (by omega)); have q5 : IntKind.i64.wrap (k % 4) = k % 4 := (IntWalk.i64_in _ (by omega))))
    all_goals
      have hgg : w2.grownBy w3 (some w.heap.size) := grownBy_trans (grownBy_trans (lundrew (by assumption)) (by assumption)) hg3
      have HI4 := Lib.hid (HI.out.kept hgg (fun x hx e => by have := HB.out x hx; have := Option.some.inj e; omega))
      have HG4 := Lib.hid (grownBy_own HG.out hgg)
      clear hgg
      go_wp2_with fail
      refine bodyPost_ret (lresults4 rfl _ _ _) rfl ⟨n, xs, b, cb, _, _, rfl, n1, n4, x3, HI4.out, ?_, ?_, HG4.out⟩
      · first | (rw [IntWalk.i64_in _ (by omega)]; omega) | omega
      · first | (rw [IntWalk.i64_in _ (by omega)]; omega) | omega
  · go_region_held3 (fun _ => True) (exact True.intro) (first | (go_at_call 51; (with_reducible refine (pick_any _ _ _ _ (by assumption) (by omega)).mono ?_); rintro e w3 ⟨k, rfl, k0, k1, hr3, hg3⟩; have q1 : k.tdiv 19 = k / 19 := Int.tdiv_eq_ediv_of_nonneg k0; have q2 : k.tmod 8 = k % 8 := Int.tmod_eq_emod_of_nonneg k0; have q3 : IntKind.i64.wrap (k / 19) = k / 19 := (IntWalk.i64_in _ (by omega)); have q4 : IntKind.i64.wrap (k / 19 * 16) = k / 19 * 16 := (IntWalk.i64_in _ (by omega)); have q5 : IntKind.i64.wrap (k % 8) = k % 8 := (IntWalk.i64_in _ (by omega))))
    all_goals
      have hgg : w2.grownBy w3 (some w.heap.size) := grownBy_trans (grownBy_trans (lundrew (by assumption)) (by assumption)) hg3
      have HI4 := Lib.hid (HI.out.kept hgg (fun x hx e => by have := HB.out x hx; have := Option.some.inj e; omega))
      have HG4 := Lib.hid (grownBy_own HG.out hgg)
      clear hgg
      go_wp2_with fail
      refine bodyPost_ret (lresults4 rfl _ _ _) rfl ⟨n, xs, b, cb, _, _, rfl, n1, n4, x3, HI4.out, ?_, ?_, HG4.out⟩
      · first | (rw [IntWalk.i64_in _ (by omega)]; omega) | omega
      · first | (rw [IntWalk.i64_in _ (by omega)]; omega) | omega

end Go.Proofs.Ythfikgaghinfbaa
