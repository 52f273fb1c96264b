/-
  DeskNew, both; impl's namesOk and what a deed leaves of chain and formula (after).
-/
import Derived.Test.YtlnffpofbfigaaaGreatDoorM17364382
import Derived.Test.YtlnffpofbfigaaaGreatDoorM2359aa93
import Derived.Test.YtlnffpofbfigaaaGreatDoorM7bea880a
import Derived.Test.YtlnffpofbfigaaaGreatDoorM05400730
namespace Go.Proofs.YtlnffpofbfigaaaGreatDoor
open Go.RowKit

def newK (n : Int) : Dk := if inB n 1 6 = true then ((n, [97]), []) else ((0, []), [])

theorem snew_any (n : Int) (w : World) :
    Calls Tryz.prog 94 #[.int .i64 n] w fun e w' => e = .returned (.tuple #[dkV (newK n) none 0, .bool (inB n 1 6)]) ∧ w.grownBy w' none := by
  unfold newK
  cases hn : inB n 1 6
  · rw [if_neg (by simp)]
    go_enter Tryz.func94, Tryz.ntmps94
    go_wp2_with (first | (go_at_call 96; refine (in_any _ _ _ _).mono ?_; rintro e w' ⟨rfl, rfl⟩))
    exact bodyPost_ret (resDkB rfl _ rfl rfl (CellsAt.new _ _ _)) rfl ⟨rfl, World.grownBy_alloc _ _ none⟩
  · rw [if_pos rfl]
    go_enter Tryz.func94, Tryz.ntmps94
    go_wp2_with (first | (go_at_call 96; refine (in_any _ _ _ _).mono ?_; rintro e w' ⟨rfl, rfl⟩))
    exact bodyPost_ret (resDkB rfl _ rfl rfl (CellsAt.new _ _ _)) rfl ⟨rfl, World.grownBy_alloc _ _ none⟩
theorem bs_empty (t : List UInt8) : (bs t).toList.isEmpty = t.isEmpty := by rw [ByteArray.toList_eq]; rfl
set_option maxHeartbeats 1000000 in
theorem names_any (a : Dd) (w : World) :
    Calls Tryz.prog 53 #[ddV a] w fun e w' => e = .returned (.bool (namesB a)) ∧ w.grownBy w' none := by
  obtain ⟨k, n, t⟩ := a
  have ht := bs_empty t
  have hg := World.grownBy_alloc w (.cells #[.int .i64 k, .int .i64 n, .string (bs t)] 40) none
  have hn : decide (n = 0) = (n == 0) := rfl
  unfold ddV namesB
  by_cases k0 : k = 0
  · subst k0
    rw [if_pos rfl]
    go_enter Tryz.func53, Tryz.ntmps53
    go_wp2
    go_ret
    exact ⟨by first | rfl | (rw [← ht]; rfl) | (rw [ht]; rfl), hg⟩
  rw [if_neg k0]
  have b0 : (k == 0) = false := beq_false_of_ne k0
  by_cases k1 : k = 1
  · subst k1
    rw [if_pos (.inl rfl)]
    go_enter Tryz.func53, Tryz.ntmps53
    go_wp2
    go_ret
    exact ⟨rfl, hg⟩
  have b1 : (k == 1) = false := beq_false_of_ne k1
  by_cases k3 : k = 3
  · subst k3
    rw [if_pos (.inr (.inl rfl))]
    go_enter Tryz.func53, Tryz.ntmps53
    go_wp2
    go_ret
    exact ⟨rfl, hg⟩
  have b3 : (k == 3) = false := beq_false_of_ne k3
  by_cases k4 : k = 4
  · subst k4
    rw [if_pos (.inr (.inr rfl))]
    go_enter Tryz.func53, Tryz.ntmps53
    go_wp2
    go_ret
    exact ⟨rfl, hg⟩
  have b4 : (k == 4) = false := beq_false_of_ne k4
  rw [if_neg (by simp [k1, k3, k4])]
  by_cases hz : n = 0
  · subst hz
    go_enter Tryz.func53, Tryz.ntmps53
    go_wp2
    go_ret
    exact ⟨by simp [← ht], hg⟩
  · have bz : (n == 0) = false := beq_false_of_ne hz
    go_enter Tryz.func53, Tryz.ntmps53
    go_wp2
    go_ret
    exact ⟨by simp [hz], hg⟩

theorem ptx_big (x n y : ByteArray) (h : x.size + y.size ≤ 8000000) (hn : n.size = 1) (w : World) :
    Calls Tryz.prog 136 #[.string x, .string n, .string y] w fun e w' => e = .returned (.string (⟨#[40]⟩ ++ x ++ n ++ y ++ ⟨#[41]⟩)) ∧ w = w' := by
  have m : maxLen = 9223372036854775807 := rfl
  go_enter Tryz.func136, Tryz.ntmps136
  go_wp2_with fail
  go_ret
  exact ⟨rfl, rfl⟩
theorem resLd1 {fn : Func} {p : Tmp} (h : fn.results = #[.cell p 29]) (tmps : Array Value) {w : World} {B : Nat} {x y : Value} (hp : tmps.getD p undef = .pointer (some ⟨B, 0, none⟩)) (hB : CellsAt w B #[x, y] 29) :
    (results fn tmps).run Tryz.prog w = .ok (.agg #[x, y]) w :=
  results_cell_row h tmps w B 29 #[x, y] (0, 0) _ hp hB Tryz.underlying29 rfl sizeLd
def AftPost (x : Ld) (a : Dd) (w : World) (e : Ending) (w' : World) : Prop := e = .returned (ldV (aft x a)) ∧ w.grownBy w' none

theorem aft_0 (x : Ld) (n : Int) (t : List UInt8) (w : World) : Calls Tryz.prog 103 #[ldV x, ddV (0, n, t)] w (AftPost x (0, n, t) w) := by
  obtain ⟨m, s⟩ := x
  unfold ldV ddV
  go_enter Tryz.func103, Tryz.ntmps103
  go_wp2
  exact bodyPost_ret (resLd1 rfl _ rfl (CellsAt.third3 _ _ _ _ _)) rfl ⟨rfl, made3 _ _ _ _⟩
theorem aft_1 (x : Ld) (n : Int) (t : List UInt8) (w : World) : Calls Tryz.prog 103 #[ldV x, ddV (1, n, t)] w (AftPost x (1, n, t) w) := by
  obtain ⟨m, s⟩ := x
  unfold ldV ddV
  go_enter Tryz.func103, Tryz.ntmps103
  go_wp2
  exact bodyPost_ret (resLd1 rfl _ rfl (CellsAt.third3 _ _ _ _ _)) rfl ⟨rfl, made3 _ _ _ _⟩
theorem aft_2 (x : Ld) (n : Int) (t : List UInt8) (hs : x.2.length ≤ 60) (w : World) : Calls Tryz.prog 103 #[ldV x, ddV (2, n, t)] w (AftPost x (2, n, t) w) := by
  obtain ⟨m, s⟩ := x
  have z := bs_size s
  have e : bs (33 :: s) = ⟨#[33]⟩ ++ bs s := (bs_app [33] s).symm
  change s.length ≤ 60 at hs
  unfold ldV ddV
  go_enter Tryz.func103, Tryz.ntmps103
  go_wp2
  exact bodyPost_ret (resLd1 rfl _ rfl (CellsAt.third3 _ _ _ _ _)) rfl ⟨by rw [← e]; rfl, made3 _ _ _ _⟩
theorem bs_pair (x t : List UInt8) (c : UInt8) : (⟨#[40]⟩ : ByteArray) ++ bs x ++ ⟨#[c]⟩ ++ bs t ++ ⟨#[41]⟩ = bs (40 :: (x ++ c :: (t ++ [41]))) := by
  rw [show (⟨#[40]⟩ : ByteArray) = bs [40] from rfl, show (⟨#[c]⟩ : ByteArray) = bs [c] from rfl, show (⟨#[41]⟩ : ByteArray) = bs [41] from rfl, bs_app, bs_app, bs_app, bs_app]; simp
theorem aft_3 (x : Ld) (n : Int) (t : List UInt8) (hs : x.2.length ≤ 60) (ht : t.length ≤ 4000000) (w : World) : Calls Tryz.prog 103 #[ldV x, ddV (3, n, t)] w (AftPost x (3, n, t) w) := by
  obtain ⟨m, s⟩ := x
  change s.length ≤ 60 at hs
  have cc := ptx_big (bs s) ⟨#[42]⟩ (bs t) (by rw [bs_size, bs_size]; omega) rfl
  rw [bs_pair] at cc
  unfold ldV ddV
  go_enter Tryz.func103, Tryz.ntmps103
  go_wp2_with (first | (go_at_call 136; refine (cc _).mono ?_; rintro e w' ⟨rfl, rfl⟩))
  exact bodyPost_ret (resLd1 rfl _ rfl (CellsAt.third3 _ _ _ _ _)) rfl ⟨rfl, made3 _ _ _ _⟩
theorem aft_4 (x : Ld) (n : Int) (t : List UInt8) (hs : x.2.length ≤ 60) (ht : t.length ≤ 4000000) (w : World) : Calls Tryz.prog 103 #[ldV x, ddV (4, n, t)] w (AftPost x (4, n, t) w) := by
  obtain ⟨m, s⟩ := x
  change s.length ≤ 60 at hs
  have cc := ptx_big (bs t) ⟨#[62]⟩ (bs s) (by rw [bs_size, bs_size]; omega) rfl
  rw [bs_pair] at cc
  unfold ldV ddV
  go_enter Tryz.func103, Tryz.ntmps103
  go_wp2_with (first | (go_at_call 136; refine (cc _).mono ?_; rintro e w' ⟨rfl, rfl⟩))
  exact bodyPost_ret (resLd1 rfl _ rfl (CellsAt.third3 _ _ _ _ _)) rfl ⟨rfl, made3 _ _ _ _⟩
/-- What the world behind a call holds of three blocks: the pair, the deed, the result. -/
theorem out3_of {w w' : World} {u v : Value} {B : Obj} (hg : (((w.alloc (.cells #[u, v] 29)).alloc B).alloc (.cells #[.int .i64 0, .string ⟨#[]⟩] 29)).grownBy w' none) :
    (w'.cell? ⟨w.heap.size, 0, none⟩ = some u ∧ w'.cell? ⟨w.heap.size, 1, none⟩ = some v) ∧ (w'.frozen? ⟨w.heap.size, 0, none⟩ = false ∧ w'.frozen? ⟨w.heap.size, 1, none⟩ = false) ∧ (w'.cell? ⟨w.heap.size + 1 + 1, 0, none⟩ = some (.int .i64 0) ∧ w'.cell? ⟨w.heap.size + 1 + 1, 1, none⟩ = some (.string ⟨#[]⟩)) ∧ (w'.frozen? ⟨w.heap.size + 1 + 1, 0, none⟩ = false ∧ w'.frozen? ⟨w.heap.size + 1 + 1, 1, none⟩ = false) ∧
      Hid (∀ z x y, CellsAt (((w'.setCell ⟨w.heap.size, 1, none⟩ z).setCell ⟨w.heap.size + 1 + 1, 0, none⟩ x).setCell ⟨w.heap.size + 1 + 1, 1, none⟩ y) (w.heap.size + 1 + 1) #[x, y] 29 ∧ w.grownBy (((w'.setCell ⟨w.heap.size, 1, none⟩ z).setCell ⟨w.heap.size + 1 + 1, 0, none⟩ x).setCell ⟨w.heap.size + 1 + 1, 1, none⟩ y) none) := by
  have h1 : CellsAt w' w.heap.size #[u, v] 29 := ((CellsAt.new w #[u, v] 29).grown (grownBy_trans (World.grownBy_alloc _ B none) (World.grownBy_alloc _ _ none))).grown hg
  have h3 := (CellsAt.third3 w (.cells #[u, v] 29) B #[.int .i64 0, .string ⟨#[]⟩] 29).grown hg
  refine ⟨⟨h1.cell rfl, h1.cell rfl⟩, ⟨h1.frozen 0, h1.frozen 1⟩, ⟨h3.cell rfl, h3.cell rfl⟩, ⟨h3.frozen 0, h3.frozen 1⟩, fun z x y => ⟨(h3.kept (grownBy_set w' w.heap.size 1 z) (by simp; omega)).put2 x y, ?_⟩⟩
  exact grownBy_put (grownBy_put (grownBy_put (grownBy_trans (made3 _ _ _ _) hg) (Nat.le_refl _) 1 z) (by omega) 0 x) (by omega) 1 y

set_option maxHeartbeats 1000000 in
theorem aft_5 (x : Ld) (n : Int) (t : List UInt8) (w : World) : Calls Tryz.prog 103 #[ldV x, ddV (5, n, t)] w (AftPost x (5, n, t) w) := by
  obtain ⟨m, s⟩ := x
  have cb := basic_any (bs s)
  rw [show bbT (bl (bs s)) = bs (basT s) from rfl] at cb
  unfold ldV ddV
  go_enter Tryz.func103, Tryz.ntmps103
  go_wp2_with (first | (go_at_call 137; refine (cb _).mono ?_; rintro e w' ⟨rfl, hg⟩; obtain ⟨⟨a0, a1⟩, ⟨d0, d1⟩, ⟨r0, r1⟩, ⟨f0, f1⟩, HF⟩ := out3_of hg))
  exact bodyPost_ret (resLd1 rfl _ rfl (HF.out _ _ _).1) rfl ⟨rfl, (HF.out _ _ _).2⟩
theorem aft_6 (x : Ld) (k n : Int) (t : List UInt8) (hk : k < 0 ∨ 5 < k) (w : World) : Calls Tryz.prog 103 #[ldV x, ddV (k, n, t)] w (AftPost x (k, n, t) w) := by
  obtain ⟨m, s⟩ := x
  have k0 : (k == 0) = false := beq_false_of_ne (by omega)
  have k1 : (k == 1) = false := beq_false_of_ne (by omega)
  have k2 : (k == 2) = false := beq_false_of_ne (by omega)
  have k3 : (k == 3) = false := beq_false_of_ne (by omega)
  have k4 : (k == 4) = false := beq_false_of_ne (by omega)
  have k5 : (k == 5) = false := beq_false_of_ne (by omega)
  have e : aft (m, s) (k, n, t) = (m, s) := by
    simp only [beq_eq_false_iff_ne] at k0 k1 k2 k3 k4 k5
    simp [aft, k0, k1, k2, k3, k4, k5]
  unfold AftPost
  rw [e]
  unfold ldV ddV
  clear e
  go_enter Tryz.func103, Tryz.ntmps103
  go_wp2
  exact bodyPost_ret (resLd1 rfl _ rfl (CellsAt.third3 _ _ _ _ _)) rfl ⟨rfl, made3 _ _ _ _⟩
theorem aft_any (x : Ld) (a : Dd) (hs : x.2.length ≤ 60) (ht : a.2.2.length ≤ 4000000) (w : World) : Calls Tryz.prog 103 #[ldV x, ddV a] w (AftPost x a w) := by
  obtain ⟨k, n, t⟩ := a
  by_cases h0 : k = 0
  · subst h0; exact aft_0 x n t w
  by_cases h1 : k = 1
  · subst h1; exact aft_1 x n t w
  by_cases h2 : k = 2
  · subst h2; exact aft_2 x n t hs w
  by_cases h3 : k = 3
  · subst h3; exact aft_3 x n t hs ht w
  by_cases h4 : k = 4
  · subst h4; exact aft_4 x n t hs ht w
  by_cases h5 : k = 5
  · subst h5; exact aft_5 x n t w
  exact aft_6 x k n t (by omega) w

end Go.Proofs.YtlnffpofbfigaaaGreatDoor
