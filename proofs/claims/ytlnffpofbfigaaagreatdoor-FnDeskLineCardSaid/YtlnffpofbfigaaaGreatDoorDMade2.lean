/-
  What a deed makes of a chain and a formula, where it makes none or takes the formula's basic form: the model's l12Made.
-/
import Derived.Test.YtlnffpofbfigaaaGreatDoorDMade
namespace Go.Proofs.YtlnffpofbfigaaaGreatDoor
open Go.RowKit

theorem made4 (w : World) (A B C D : Obj) : w.grownBy ((((w.alloc A).alloc B).alloc C).alloc D) none :=
  grownBy_trans (grownBy_trans (grownBy_trans (World.grownBy_alloc w A none) (World.grownBy_alloc _ B none)) (World.grownBy_alloc _ C none)) (World.grownBy_alloc _ D none)

set_option maxHeartbeats 1600000 in
theorem smade_5 (x : Ld) (hb : basB x.2 = true) (w : World) :
    Calls Tryz.prog 109 #[ldV x, ddV (5, 0, [])] w (MadePost (some (x.1, basT x.2)) w) := by
  obtain ⟨m, s⟩ := x
  have cc := slaid_any (m, basT s)
  have cb := sbasic_any (bs s)
  rw [show basB (bl (bs s)) = true from hb] at cb
  rw [show bbT (bl (bs s)) = bs (basT s) from rfl] at cb
  unfold ldV at cc
  unfold ldV ddV
  rw [show bs ([] : List UInt8) = ⟨#[]⟩ from rfl]
  go_enter Tryz.func109, Tryz.ntmps109
  go_wp2_with (first | (go_at_call 142; refine (cb _).mono ?_; rintro e w1 ⟨rfl, rfl⟩))
  go_region_with (go_at_call 49; refine (cc _).mono ?_; rintro e w' ⟨rfl, hg⟩; obtain ⟨⟨a0, a1⟩, ⟨z0, z1, b0, b1, HB⟩, f0, f1⟩ := outB_of hg)
  all_goals go_wp2
  all_goals exact bodyPost_ret (resLd rfl _ rfl rfl (HB.out.put2 _ _)) rfl (made_some rfl (made_grown hg _ _))

set_option maxHeartbeats 1600000 in
theorem smade_5n (x : Ld) (hb : basB x.2 = false) (w : World) :
    Calls Tryz.prog 109 #[ldV x, ddV (5, 0, [])] w (MadePost none w) := by
  obtain ⟨m, s⟩ := x
  have cb := sbasic_any (bs s)
  rw [show basB (bl (bs s)) = false from hb] at cb
  unfold ldV ddV
  rw [show bs ([] : List UInt8) = ⟨#[]⟩ from rfl]
  go_enter Tryz.func109, Tryz.ntmps109
  go_wp2_with (first | (go_at_call 142; refine (cb _).mono ?_; rintro e w1 ⟨rfl, rfl⟩))
  exact bodyPost_ret (resLd rfl _ rfl rfl (CellsAt.third _ _ _ _ _ _)) rfl (made_none (y := (m, s)) rfl (made4 _ _ _ _ _))

set_option maxHeartbeats 1600000 in
theorem smade_n0 (x : Ld) (n : Int) (t : List UInt8) (ht : t ≠ []) (w : World) :
    Calls Tryz.prog 109 #[ldV x, ddV (0, n, t)] w (MadePost none w) := by
  obtain ⟨m, s⟩ := x
  have he : (bs t).toList.isEmpty = false := by
    rw [ByteArray.toList_eq]
    cases t with
    | nil => exact absurd rfl ht
    | cons c t => rfl
  unfold ldV ddV
  go_enter Tryz.func109, Tryz.ntmps109
  go_wp2
  exact bodyPost_ret (resLd rfl _ rfl rfl (CellsAt.third _ _ _ _ _ _)) rfl (made_none (y := (m, s)) rfl (made4 _ _ _ _ _))

set_option maxHeartbeats 1600000 in
theorem smade_n1 (x : Ld) (n : Int) (t : List UInt8) (hn : n ≠ 0) (w : World) :
    Calls Tryz.prog 109 #[ldV x, ddV (1, n, t)] w (MadePost none w) := by
  obtain ⟨m, s⟩ := x
  have he : (n == 0) = false := beq_false_of_ne hn
  unfold ldV ddV
  go_enter Tryz.func109, Tryz.ntmps109
  go_wp2
  exact bodyPost_ret (resLd rfl _ rfl rfl (CellsAt.third _ _ _ _ _ _)) rfl (made_none (y := (m, s)) rfl (made4 _ _ _ _ _))

set_option maxHeartbeats 1600000 in
theorem smade_n2 (x : Ld) (n : Int) (t : List UInt8) (hn : n ≠ 0) (w : World) :
    Calls Tryz.prog 109 #[ldV x, ddV (2, n, t)] w (MadePost none w) := by
  obtain ⟨m, s⟩ := x
  have he : (n == 0) = false := beq_false_of_ne hn
  unfold ldV ddV
  go_enter Tryz.func109, Tryz.ntmps109
  go_wp2
  exact bodyPost_ret (resLd rfl _ rfl rfl (CellsAt.third _ _ _ _ _ _)) rfl (made_none (y := (m, s)) rfl (made4 _ _ _ _ _))

set_option maxHeartbeats 1600000 in
theorem smade_e2 (x : Ld) (t : List UInt8) (ht : t ≠ []) (w : World) :
    Calls Tryz.prog 109 #[ldV x, ddV (2, 0, t)] w (MadePost none w) := by
  obtain ⟨m, s⟩ := x
  have he : (bs t).toList.isEmpty = false := by
    rw [ByteArray.toList_eq]
    cases t with
    | nil => exact absurd rfl ht
    | cons c t => rfl
  unfold ldV ddV
  go_enter Tryz.func109, Tryz.ntmps109
  go_wp2
  exact bodyPost_ret (resLd rfl _ rfl rfl (CellsAt.third _ _ _ _ _ _)) rfl (made_none (y := (m, s)) rfl (made4 _ _ _ _ _))

set_option maxHeartbeats 1600000 in
theorem smade_n5 (x : Ld) (n : Int) (t : List UInt8) (hn : n ≠ 0) (w : World) :
    Calls Tryz.prog 109 #[ldV x, ddV (5, n, t)] w (MadePost none w) := by
  obtain ⟨m, s⟩ := x
  have he : (n == 0) = false := beq_false_of_ne hn
  unfold ldV ddV
  go_enter Tryz.func109, Tryz.ntmps109
  go_wp2
  exact bodyPost_ret (resLd rfl _ rfl rfl (CellsAt.third _ _ _ _ _ _)) rfl (made_none (y := (m, s)) rfl (made4 _ _ _ _ _))

set_option maxHeartbeats 1600000 in
theorem smade_e5 (x : Ld) (t : List UInt8) (ht : t ≠ []) (w : World) :
    Calls Tryz.prog 109 #[ldV x, ddV (5, 0, t)] w (MadePost none w) := by
  obtain ⟨m, s⟩ := x
  have he : (bs t).toList.isEmpty = false := by
    rw [ByteArray.toList_eq]
    cases t with
    | nil => exact absurd rfl ht
    | cons c t => rfl
  unfold ldV ddV
  go_enter Tryz.func109, Tryz.ntmps109
  go_wp2
  exact bodyPost_ret (resLd rfl _ rfl rfl (CellsAt.third _ _ _ _ _ _)) rfl (made_none (y := (m, s)) rfl (made4 _ _ _ _ _))

set_option maxHeartbeats 1600000 in
theorem smade_n3 (x : Ld) (n : Int) (t : List UInt8) (hn : n ≠ 0) (w : World) :
    Calls Tryz.prog 109 #[ldV x, ddV (3, n, t)] w (MadePost none w) := by
  obtain ⟨m, s⟩ := x
  have he : (n == 0) = false := beq_false_of_ne hn
  unfold ldV ddV
  go_enter Tryz.func109, Tryz.ntmps109
  go_wp2
  exact bodyPost_ret (resLd rfl _ rfl rfl (CellsAt.third _ _ _ _ _ _)) rfl (made_none (y := (m, s)) rfl (made4 _ _ _ _ _))

set_option maxHeartbeats 1600000 in
theorem smade_e3 (x : Ld) (t : List UInt8) (ht : isF t = false) (w : World) :
    Calls Tryz.prog 109 #[ldV x, ddV (3, 0, t)] w (MadePost none w) := by
  obtain ⟨m, s⟩ := x
  have hbt : isF (bl (bs t)) = false := ht
  unfold ldV ddV
  go_enter Tryz.func109, Tryz.ntmps109
  go_wp2_with (first | (go_at_call 74; refine (sform_any _ _).mono ?_; rw [hbt]; rintro e w1 ⟨rfl, rfl⟩))
  exact bodyPost_ret (resLd rfl _ rfl rfl (CellsAt.third _ _ _ _ _ _)) rfl (made_none (y := (m, s)) rfl (made4 _ _ _ _ _))

set_option maxHeartbeats 1600000 in
theorem smade_n4 (x : Ld) (n : Int) (t : List UInt8) (hn : n ≠ 0) (w : World) :
    Calls Tryz.prog 109 #[ldV x, ddV (4, n, t)] w (MadePost none w) := by
  obtain ⟨m, s⟩ := x
  have he : (n == 0) = false := beq_false_of_ne hn
  unfold ldV ddV
  go_enter Tryz.func109, Tryz.ntmps109
  go_wp2
  exact bodyPost_ret (resLd rfl _ rfl rfl (CellsAt.third _ _ _ _ _ _)) rfl (made_none (y := (m, s)) rfl (made4 _ _ _ _ _))

set_option maxHeartbeats 1600000 in
theorem smade_e4 (x : Ld) (t : List UInt8) (ht : isF t = false) (w : World) :
    Calls Tryz.prog 109 #[ldV x, ddV (4, 0, t)] w (MadePost none w) := by
  obtain ⟨m, s⟩ := x
  have hbt : isF (bl (bs t)) = false := ht
  unfold ldV ddV
  go_enter Tryz.func109, Tryz.ntmps109
  go_wp2_with (first | (go_at_call 74; refine (sform_any _ _).mono ?_; rw [hbt]; rintro e w1 ⟨rfl, rfl⟩))
  exact bodyPost_ret (resLd rfl _ rfl rfl (CellsAt.third _ _ _ _ _ _)) rfl (made_none (y := (m, s)) rfl (made4 _ _ _ _ _))

set_option maxHeartbeats 1600000 in
theorem smade_n6 (x : Ld) (k n : Int) (t : List UInt8) (hk : k < 0 ∨ 5 < k) (w : World) :
    Calls Tryz.prog 109 #[ldV x, ddV (k, n, t)] w (MadePost none w) := by
  obtain ⟨m, s⟩ := x
  have k0 : (k == 0) = false := beq_false_of_ne (by omega)
  have k1 : (k == 1) = false := beq_false_of_ne (by omega)
  have k2 : (k == 2) = false := beq_false_of_ne (by omega)
  have k3 : (k == 3) = false := beq_false_of_ne (by omega)
  have k4 : (k == 4) = false := beq_false_of_ne (by omega)
  have k5 : (k == 5) = false := beq_false_of_ne (by omega)
  unfold ldV ddV
  go_enter Tryz.func109, Tryz.ntmps109
  go_wp2
  exact bodyPost_ret (resLd rfl _ rfl rfl (CellsAt.third _ _ _ _ _ _)) rfl (made_none (y := (m, s)) rfl (made4 _ _ _ _ _))

/-- What a deed makes, any deed at all. -/
theorem sdmade_any (x : Ld) (a : Dd) (hs : x.2.length ≤ 60) (w : World) :
    Calls Tryz.prog 109 #[ldV x, ddV a] w (MadePost (rawD x a) w) := by
  obtain ⟨k, n, t⟩ := a
  have hr : rawD x (k, n, t) = (if k = 0 ∧ t = [] then some (n, x.2)
    else if k = 1 ∧ n = 0 then some (x.1, t)
    else if (k, n, t) = ((2, 0, []) : Dd) then some (x.1, 33 :: x.2)
    else if k = 3 ∧ n = 0 ∧ isF t = true then some (x.1, 40 :: (x.2 ++ 42 :: (t ++ [41])))
    else if k = 4 ∧ n = 0 ∧ isF t = true then some (x.1, 40 :: (t ++ 62 :: (x.2 ++ [41])))
    else if (k, n, t) = ((5, 0, []) : Dd) ∧ basB x.2 = true then some (x.1, basT x.2)
    else none) := rfl
  rw [hr]
  by_cases h0 : k = 0
  · subst h0
    by_cases ht : t = []
    · subst ht; rw [if_pos ⟨rfl, rfl⟩]; exact smade_0 x n w
    · rw [if_neg (fun h => ht h.2)]; simp only [Prod.mk.injEq]; simp; exact smade_n0 x n t ht w
  by_cases h1 : k = 1
  · subst h1
    by_cases hn : n = 0
    · subst hn; simp; exact smade_1 x t w
    · simp [hn]; exact smade_n1 x n t hn w
  by_cases h2 : k = 2
  · subst h2
    by_cases hn : n = 0
    · subst hn
      by_cases ht : t = []
      · subst ht; simp; exact smade_2 x hs w
      · simp [ht]; exact smade_e2 x t ht w
    · simp [hn]; exact smade_n2 x n t hn w
  by_cases h3 : k = 3
  · subst h3
    by_cases hn : n = 0
    · subst hn
      by_cases ht : isF t = true
      · simp [ht]; exact smade_3 x t ht hs w
      · simp [ht]; exact smade_e3 x t (by simpa using ht) w
    · simp [hn]; exact smade_n3 x n t hn w
  by_cases h4 : k = 4
  · subst h4
    by_cases hn : n = 0
    · subst hn
      by_cases ht : isF t = true
      · simp [ht]; exact smade_4 x t ht hs w
      · simp [ht]; exact smade_e4 x t (by simpa using ht) w
    · simp [hn]; exact smade_n4 x n t hn w
  by_cases h5 : k = 5
  · subst h5
    by_cases hn : n = 0
    · subst hn
      by_cases ht : t = []
      · subst ht
        by_cases hb : basB x.2 = true
        · simp [hb]; exact smade_5 x hb w
        · simp [hb]; exact smade_5n x (by simpa using hb) w
      · simp [ht]; exact smade_e5 x t ht w
    · simp [hn]; exact smade_n5 x n t hn w
  simp [h0, h1, h2, h3, h4, h5]
  exact smade_n6 x k n t (by omega) w

end Go.Proofs.YtlnffpofbfigaaaGreatDoor
