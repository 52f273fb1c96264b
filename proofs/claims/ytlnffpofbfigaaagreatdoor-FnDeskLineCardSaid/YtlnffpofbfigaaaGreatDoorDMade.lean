/-
  What a deed makes of a chain and a formula: the model's l12Made.
-/
import Derived.Test.YtlnffpofbfigaaaGreatDoorDSpec
namespace Go.Proofs.YtlnffpofbfigaaaGreatDoor
open Go.RowKit

/-- What is told of what a deed makes: a pair and whether it is one; the pair counts only then. -/
def MadePost (o : Option Ld) (w : World) (e : Ending) (w' : World) : Prop :=
  (∃ v b, e = .returned (.tuple #[v, .bool b]) ∧ (∃ y, v = ldV y) ∧ (match o with | some y => (ldB y = true → b = true ∧ v = ldV y) ∧ (ldB y = false → b = false) | none => b = false)) ∧ w.grownBy w' none

theorem CellsAt.frozen {W : World} {b : Nat} {vs : Array Value} {T : TypeId} (h : CellsAt W b vs T) (i : Nat) : W.frozen? ⟨b, i, none⟩ = false := by
  simp [World.frozen?, show W.heap[b]? = _ from h]
/-- The fourth of four new blocks, and the third. -/
theorem CellsAt.fourth (w : World) (A B C : Obj) (vs : Array Value) (T : TypeId) : CellsAt ((((w.alloc A).alloc B).alloc C).alloc (.cells vs T)) (w.heap.size + 1 + 1 + 1) vs T := by
  have e : (((w.alloc A).alloc B).alloc C).heap.size = w.heap.size + 1 + 1 + 1 := by simp only [World.alloc, Array.size_push]
  rw [← e]; exact CellsAt.new _ vs T
theorem CellsAt.third (w : World) (A B D : Obj) (vs : Array Value) (T : TypeId) : CellsAt ((((w.alloc A).alloc B).alloc (.cells vs T)).alloc D) (w.heap.size + 1 + 1) vs T := by
  have e : ((w.alloc A).alloc B).heap.size = w.heap.size + 1 + 1 := by simp only [World.alloc, Array.size_push]
  rw [← e]; exact (CellsAt.new ((w.alloc A).alloc B) vs T).grown (World.grownBy_alloc _ _ none)

/-- What the world behind the last call holds of the pair that was made and of the result's block. -/
def OutB (w' : World) (h : Nat) (x y : Value) : Prop :=
  (w'.cell? ⟨h + 1 + 1 + 1, 0, none⟩ = some x ∧ w'.cell? ⟨h + 1 + 1 + 1, 1, none⟩ = some y) ∧ (∃ u v, w'.cell? ⟨h + 1 + 1, 0, none⟩ = some u ∧ w'.cell? ⟨h + 1 + 1, 1, none⟩ = some v ∧ Hid (CellsAt w' (h + 1 + 1) #[u, v] 29)) ∧ w'.frozen? ⟨h + 1 + 1, 0, none⟩ = false ∧ w'.frozen? ⟨h + 1 + 1, 1, none⟩ = false
theorem outB_of {w w' : World} {A B : Obj} {u v x y : Value} {T' : TypeId} (hg : ((((w.alloc A).alloc B).alloc (.cells #[u, v] 29)).alloc (.cells #[x, y] T')).drew.grownBy w' none) : OutB w' w.heap.size x y := by
  have h4 := (CellsAt.fourth w A B (.cells #[u, v] 29) #[x, y] T')
  have h3 := (CellsAt.third w A B (.cells #[x, y] T') #[u, v] 29)
  have g := grownBy_trans (grownBy_drew (grownBy_refl ((((w.alloc A).alloc B).alloc (.cells #[u, v] 29)).alloc (.cells #[x, y] T')) none)) hg
  have h4 := h4.grown g
  have h3 := h3.grown g
  exact ⟨⟨h4.cell rfl, h4.cell rfl⟩, ⟨u, v, h3.cell rfl, h3.cell rfl, Lib.hid h3⟩, h3.frozen 0, h3.frozen 1⟩

theorem grownBy_put {w w' : World} {b : Nat} (h : w.grownBy w' none) (hb : w.heap.size ≤ b) (i : Nat) (v : Value) : w.grownBy (w'.setCell ⟨b, i, none⟩ v) none := by
  have k := grownBy_set w' b i v
  refine ⟨k.os.trans h.os, k.tape.trans h.tape, k.output.trans h.output, Nat.le_trans h.size k.size, fun c hc _ => ?_⟩
  rw [k.block c (Nat.lt_of_lt_of_le hc h.size) (by intro e; cases e; omega)]
  exact h.block c hc (by simp)
theorem made_grown {w w' : World} {A B C D : Obj} (hg : ((((w.alloc A).alloc B).alloc C).alloc D).drew.grownBy w' none) (u v : Value) : w.grownBy ((w'.setCell ⟨w.heap.size + 1 + 1, 0, none⟩ u).setCell ⟨w.heap.size + 1 + 1, 1, none⟩ v) none := by
  have a1 := World.grownBy_alloc w A none
  have a2 := grownBy_trans a1 (World.grownBy_alloc _ B none)
  have a3 := grownBy_trans a2 (World.grownBy_alloc _ C none)
  have a4 := grownBy_trans a3 (World.grownBy_alloc _ D none)
  exact grownBy_put (grownBy_put (grownBy_trans (grownBy_drew a4) hg) (by omega) 0 u) (by omega) 1 v
theorem CellsAt.set {W : World} {b : Nat} {vs : Array Value} {T : TypeId} (h : CellsAt W b vs T) (i : Nat) (v : Value) : CellsAt (W.setCell ⟨b, i, none⟩ v) b (vs.setIfInBounds i v) T := by
  unfold CellsAt World.setCell
  simp only [Array.getElem?_modify, if_true, show W.heap[b]? = _ from h, Option.map_some]
  rfl
theorem CellsAt.put2 {W : World} {b : Nat} {u v : Value} {T : TypeId} (h : CellsAt W b #[u, v] T) (x y : Value) : CellsAt ((W.setCell ⟨b, 0, none⟩ x).setCell ⟨b, 1, none⟩ y) b #[x, y] T := (h.set 0 x).set 1 y
theorem sizeLd : (Tryz.prog.info? 29).map (·.size) = some 2 := by kernel_rfl
theorem resLd {fn : Func} {p u : Tmp} (h : fn.results = #[.cell p 29, .tmp u]) (tmps : Array Value) {w : World} {B : Nat} {x y : Value} {b : Bool} (hp : tmps.getD p undef = .pointer (some ⟨B, 0, none⟩)) (hu : tmps.getD u undef = .bool b) (hB : CellsAt w B #[x, y] 29) :
    (results fn tmps).run Tryz.prog w = .ok (.tuple #[.agg #[x, y], .bool b]) w := by
  rw [results_cell_tmp h, hp, hu]
  have := run_loadVar_row w B 29 29 #[x, y] (0, 0) _ hB Tryz.underlying29 rfl sizeLd
  simp only [asAddr, Sem.run_pure, Result.andThen_ok, this]
theorem made_some {y : Ld} {v : Value} {w w' : World} (hv : v = ldV y) (h : w.grownBy w' none) : MadePost (some y) w (.returned (.tuple #[v, .bool (ldB y)])) w' :=
  ⟨⟨_, _, rfl, ⟨y, hv⟩, fun k => ⟨k, hv⟩, fun k => k⟩, h⟩
theorem made_none {y : Ld} {v : Value} {w w' : World} (hv : v = ldV y) (h : w.grownBy w' none) : MadePost none w (.returned (.tuple #[v, .bool false])) w' :=
  ⟨⟨_, _, rfl, ⟨y, hv⟩, rfl⟩, h⟩
theorem bs_app (l m : List UInt8) : bs l ++ bs m = bs (l ++ m) := bl_inj (by rw [bl_bs]; show ((bs l ++ bs m).data.toList) = _; simp [bs])
theorem bs_lit (l : List UInt8) : (⟨l.toArray⟩ : ByteArray) = bs l := rfl

set_option maxHeartbeats 1600000 in
theorem smade_0 (x : Ld) (n : Int) (w : World) :
    Calls Tryz.prog 109 #[ldV x, ddV (0, n, [])] w (MadePost (some (n, x.2)) w) := by
  obtain ⟨m, s⟩ := x
  have cc := slaid_any (n, s)
  unfold ldV at cc
  have hb0 : bs ([] : List UInt8) = ⟨#[]⟩ := rfl
  unfold ldV ddV
  try rw [show bs ([] : List UInt8) = ⟨#[]⟩ from rfl]
  go_enter Tryz.func109, Tryz.ntmps109
  go_wp2
  go_region_with (go_at_call 49; refine (cc _).mono ?_; rintro e w' ⟨rfl, hg⟩; obtain ⟨⟨a0, a1⟩, ⟨z0, z1, b0, b1, HB⟩, f0, f1⟩ := outB_of hg)
  all_goals go_wp2
  all_goals exact bodyPost_ret (resLd rfl _ rfl rfl (HB.out.put2 _ _)) rfl (made_some rfl (made_grown hg _ _))

set_option maxHeartbeats 1600000 in
theorem smade_1 (x : Ld) (t : List UInt8) (w : World) :
    Calls Tryz.prog 109 #[ldV x, ddV (1, 0, t)] w (MadePost (some (x.1, t)) w) := by
  obtain ⟨m, s⟩ := x
  have cc := slaid_any (m, t)
  unfold ldV at cc
  unfold ldV ddV
  try rw [show bs ([] : List UInt8) = ⟨#[]⟩ from rfl]
  go_enter Tryz.func109, Tryz.ntmps109
  go_wp2
  go_region_with (go_at_call 49; refine (cc _).mono ?_; rintro e w' ⟨rfl, hg⟩; obtain ⟨⟨a0, a1⟩, ⟨z0, z1, b0, b1, HB⟩, f0, f1⟩ := outB_of hg)
  all_goals go_wp2
  all_goals exact bodyPost_ret (resLd rfl _ rfl rfl (HB.out.put2 _ _)) rfl (made_some rfl (made_grown hg _ _))

set_option maxHeartbeats 1600000 in
theorem smade_2 (x : Ld) (hs : x.2.length ≤ 60) (w : World) :
    Calls Tryz.prog 109 #[ldV x, ddV (2, 0, [])] w (MadePost (some (x.1, 33 :: x.2)) w) := by
  obtain ⟨m, s⟩ := x
  have cc := slaid_any (m, 33 :: s)
  unfold ldV at cc
  have z := bs_size s
  have e : bs (33 :: s) = ⟨#[33]⟩ ++ bs s := (bs_app [33] s).symm
  rw [e] at cc
  change s.length ≤ 60 at hs
  unfold ldV ddV
  try rw [show bs ([] : List UInt8) = ⟨#[]⟩ from rfl]
  go_enter Tryz.func109, Tryz.ntmps109
  go_wp2
  go_region_with (go_at_call 49; refine (cc _).mono ?_; rintro e w' ⟨rfl, hg⟩; obtain ⟨⟨a0, a1⟩, ⟨z0, z1, b0, b1, HB⟩, f0, f1⟩ := outB_of hg)
  all_goals go_wp2
  all_goals exact bodyPost_ret (resLd rfl _ rfl rfl (HB.out.put2 _ _)) rfl (made_some (by unfold ldV; rw [e]) (made_grown hg _ _))

set_option maxHeartbeats 1600000 in
theorem smade_3 (x : Ld) (t : List UInt8) (ht : isF t = true) (hs : x.2.length ≤ 60) (w : World) :
    Calls Tryz.prog 109 #[ldV x, ddV (3, 0, t)] w (MadePost (some (x.1, 40 :: (x.2 ++ 42 :: (t ++ [41])))) w) := by
  obtain ⟨m, s⟩ := x
  have cc := slaid_any (m, 40 :: (s ++ 42 :: (t ++ [41])))
  unfold ldV at cc
  have z := bs_size s
  have zt := bs_size t
  have zl := isF_len ht
  have e : bs (40 :: (s ++ 42 :: (t ++ [41]))) = ⟨#[40]⟩ ++ bs s ++ ⟨#[42]⟩ ++ bs t ++ ⟨#[41]⟩ := by
    rw [show (⟨#[40]⟩ : ByteArray) = bs [40] from rfl, show (⟨#[42]⟩ : ByteArray) = bs [42] from rfl, show (⟨#[41]⟩ : ByteArray) = bs [41] from rfl, bs_app, bs_app, bs_app, bs_app]; simp
  rw [e] at cc
  change s.length ≤ 60 at hs
  have hbt : isF (bl (bs t)) = true := ht
  unfold ldV ddV
  try rw [show bs ([] : List UInt8) = ⟨#[]⟩ from rfl]
  go_enter Tryz.func109, Tryz.ntmps109
  go_wp2_with (first | (go_at_call 74; refine (sform_any _ _).mono ?_; rw [hbt]; rintro e w1 ⟨rfl, rfl⟩))
  go_region_with (go_at_call 49; refine (cc _).mono ?_; rintro e w' ⟨rfl, hg⟩; obtain ⟨⟨a0, a1⟩, ⟨z0, z1, b0, b1, HB⟩, f0, f1⟩ := outB_of hg)
  all_goals go_wp2
  all_goals exact bodyPost_ret (resLd rfl _ rfl rfl (HB.out.put2 _ _)) rfl (made_some (by unfold ldV; rw [e]) (made_grown hg _ _))

set_option maxHeartbeats 1600000 in
theorem smade_4 (x : Ld) (t : List UInt8) (ht : isF t = true) (hs : x.2.length ≤ 60) (w : World) :
    Calls Tryz.prog 109 #[ldV x, ddV (4, 0, t)] w (MadePost (some (x.1, 40 :: (t ++ 62 :: (x.2 ++ [41])))) w) := by
  obtain ⟨m, s⟩ := x
  have cc := slaid_any (m, 40 :: (t ++ 62 :: (s ++ [41])))
  unfold ldV at cc
  have z := bs_size s
  have zt := bs_size t
  have zl := isF_len ht
  have e : bs (40 :: (t ++ 62 :: (s ++ [41]))) = ⟨#[40]⟩ ++ bs t ++ ⟨#[62]⟩ ++ bs s ++ ⟨#[41]⟩ := by
    rw [show (⟨#[40]⟩ : ByteArray) = bs [40] from rfl, show (⟨#[62]⟩ : ByteArray) = bs [62] from rfl, show (⟨#[41]⟩ : ByteArray) = bs [41] from rfl, bs_app, bs_app, bs_app, bs_app]; simp
  rw [e] at cc
  change s.length ≤ 60 at hs
  have hbt : isF (bl (bs t)) = true := ht
  unfold ldV ddV
  try rw [show bs ([] : List UInt8) = ⟨#[]⟩ from rfl]
  go_enter Tryz.func109, Tryz.ntmps109
  go_wp2_with (first | (go_at_call 74; refine (sform_any _ _).mono ?_; rw [hbt]; rintro e w1 ⟨rfl, rfl⟩))
  go_region_with (go_at_call 49; refine (cc _).mono ?_; rintro e w' ⟨rfl, hg⟩; obtain ⟨⟨a0, a1⟩, ⟨z0, z1, b0, b1, HB⟩, f0, f1⟩ := outB_of hg)
  all_goals go_wp2
  all_goals exact bodyPost_ret (resLd rfl _ rfl rfl (HB.out.put2 _ _)) rfl (made_some (by unfold ldV; rw [e]) (made_grown hg _ _))

end Go.Proofs.YtlnffpofbfigaaaGreatDoor
