/-
  impl.ValueAt: the setting, the type switch that asks each node for its value, by induction on the tree. No condition.
-/
import Derived.Test.YtnkebgkocpeonaaFCell
import Derived.Laws.EntriesVeiled
namespace Go.Proofs.Ytnkebgkocpeonaa
open Go.RowKit Go.Maps Go.Joins

def setV (n a b c : Int) : Value := .agg #[.int .i64 n, .int .i64 a, .int .i64 b, .int .i64 c]

theorem thrB_f1 {n a b c : Int} (h : vokB n a = false) : thrB n a b c = false := by unfold thrB; rw [h]; rfl
theorem thrB_f2 {n a b c : Int} (h : vokB n b = false) : thrB n a b c = false := by unfold thrB; rw [h]; cases vokB n a <;> rfl
theorem thrB_f3 {n a b c : Int} (h : vokB n c = false) : thrB n a b c = false := by unfold thrB; rw [h]; cases vokB n a <;> cases vokB n b <;> rfl

def ORel (n a b c : Int) (i : Value) : Prop :=
  ∃ k : Nat, i = .int .i64 k ∧ (k = 0 ∨ (k = 1 ∧ vokB n a = true) ∨ (k = 2 ∧ vokB n a = true ∧ vokB n b = true) ∨ (k = 3 ∧ vokB n a = true ∧ vokB n b = true ∧ vokB n c = true))

theorem as_lt (w : World) (p : Value) : (Instr.typeAssert (.iface 120 p) 90 120 true).run Try.prog w = .ok (.tuple #[p, .bool true]) w := by kernel_rfl
theorem as_tru_1 (w : World) (p : Value) : (Instr.typeAssert (.iface 121 p) 90 120 true).run Try.prog w = .ok (.tuple #[.int .i64 0, .bool false]) w := by kernel_rfl
theorem as_tru_2 (w : World) (p : Value) : (Instr.typeAssert (.iface 121 p) 90 121 true).run Try.prog w = .ok (.tuple #[p, .bool true]) w := by kernel_rfl
theorem as_neg_1 (w : World) (p : Value) : (Instr.typeAssert (.iface 123 p) 90 120 true).run Try.prog w = .ok (.tuple #[.int .i64 0, .bool false]) w := by kernel_rfl
theorem as_neg_2 (w : World) (p : Value) : (Instr.typeAssert (.iface 123 p) 90 121 true).run Try.prog w = .ok (.tuple #[.bool false, .bool false]) w := by kernel_rfl
theorem as_neg_3 (w : World) (p : Value) : (Instr.typeAssert (.iface 123 p) 90 123 true).run Try.prog w = .ok (.tuple #[p, .bool true]) w := by kernel_rfl
theorem as_bin_1 (w : World) (p : Value) : (Instr.typeAssert (.iface 128 p) 90 120 true).run Try.prog w = .ok (.tuple #[.int .i64 0, .bool false]) w := by kernel_rfl
theorem as_bin_2 (w : World) (p : Value) : (Instr.typeAssert (.iface 128 p) 90 121 true).run Try.prog w = .ok (.tuple #[.bool false, .bool false]) w := by kernel_rfl
theorem as_bin_3 (w : World) (p : Value) : (Instr.typeAssert (.iface 128 p) 90 123 true).run Try.prog w = .ok (.tuple #[.agg #[.nilIface], .bool false]) w := by kernel_rfl
theorem as_bin_4 (w : World) (p : Value) : (Instr.typeAssert (.iface 128 p) 90 128 true).run Try.prog w = .ok (.tuple #[p, .bool true]) w := by kernel_rfl

def VtOk (n a b c : Int) (t : Tr) : Prop := ∀ w : World, Calls Try.prog 67 #[.agg #[.int .i64 n, .int .i64 a, .int .i64 b, .int .i64 c], .iface (nodeT t) (nodeP t)] w fun e w' => e = .returned (.int .i64 (t.val n a b c)) ∧ w.grownBy w' none

theorem vt_lt (n a b c : Int) (k : Lr) : VtOk n a b c (.lt k) := by
  intro w
  have h1 := as_lt
  cases k
  all_goals
    show Calls Try.prog 67 #[.agg #[.int .i64 n, .int .i64 a, .int .i64 b, .int .i64 c], .iface 120 (.int .i64 _)] w _
    unfold Lr.num
    go_enter Try.func67, Try.ntmps67
    go_wp2_with fail
    go_ret
    exact ⟨rfl, World.grownBy_alloc _ _ _⟩

theorem vt_tru (n a b c : Int) (k : Bool) : VtOk n a b c (.tru k) := by
  intro w
  have h1 := as_tru_1
  have h2 := as_tru_2
  cases k
  all_goals
    show Calls Try.prog 67 #[.agg #[.int .i64 n, .int .i64 a, .int .i64 b, .int .i64 c], .iface 121 (.bool _)] w _
    go_enter Try.func67, Try.ntmps67
    go_wp2_with fail
    go_ret
    exact ⟨rfl, World.grownBy_alloc _ _ _⟩

theorem held5 {w0 w1 w2 : World} {a b c d p : Addr} {x y z u v : Value} (h : w1.cell? a = some x ∧ w1.cell? b = some y ∧ w1.cell? c = some z ∧ w1.cell? d = some u ∧ w1.cell? p = some v ∧ w0.grownBy w1 none) (hg : w1.grownBy w2 none) :
    w2.cell? a = some x ∧ w2.cell? b = some y ∧ w2.cell? c = some z ∧ w2.cell? d = some u ∧ w2.cell? p = some v ∧ w0.grownBy w2 none :=
  ⟨cell_grown h.1 hg, cell_grown h.2.1 hg, cell_grown h.2.2.1 hg, cell_grown h.2.2.2.1 hg, cell_grown h.2.2.2.2.1 hg, grownBy_trans h.2.2.2.2.2 hg⟩
theorem held7 {w0 w1 w2 : World} {a b c d p q r : Addr} {x y z u v s t : Value} (h : w1.cell? a = some x ∧ w1.cell? b = some y ∧ w1.cell? c = some z ∧ w1.cell? d = some u ∧ w1.cell? p = some v ∧ w1.cell? q = some s ∧ w1.cell? r = some t ∧ w0.grownBy w1 none) (hg : w1.grownBy w2 none) :
    w2.cell? a = some x ∧ w2.cell? b = some y ∧ w2.cell? c = some z ∧ w2.cell? d = some u ∧ w2.cell? p = some v ∧ w2.cell? q = some s ∧ w2.cell? r = some t ∧ w0.grownBy w2 none :=
  ⟨cell_grown h.1 hg, cell_grown h.2.1 hg, cell_grown h.2.2.1 hg, cell_grown h.2.2.2.1 hg, cell_grown h.2.2.2.2.1 hg, cell_grown h.2.2.2.2.2.1 hg, cell_grown h.2.2.2.2.2.2.1 hg, grownBy_trans h.2.2.2.2.2.2.2 hg⟩

theorem old_cell {w : World} {C : Array Value} {T : TypeId} {i : Nat} {v : Value} (o : Obj) (h : C[i]? = some v) : ((w.alloc (.cells C T)).alloc o).drew.cell? ⟨w.heap.size, i, none⟩ = some v := by
  refine cell_grown (w1 := w.alloc (.cells C T)) ?_ (grownBy_drew (World.grownBy_alloc _ _ _))
  rw [World.cell?_alloc_mark]; exact h
theorem new_cell {w w1 : World} {C : Array Value} {T : TypeId} {i : Nat} {v : Value} (hs : w1.heap.size = w.heap.size + 1) (h : C[i]? = some v) : (w1.alloc (.cells C T)).drew.cell? ⟨w.heap.size + 1, i, none⟩ = some v := by
  have e := World.cell?_alloc_mark w1 C T (0, 0) i
  rw [hs] at e
  exact e.trans h

set_option maxHeartbeats 2000000 in
theorem vt_neg {n a b c : Int} {x : Tr} (ih : VtOk n a b c x) : VtOk n a b c (.neg x) := by
  intro w
  have h1 := as_neg_1
  have h2 := as_neg_2
  have h3 := as_neg_3
  show Calls Try.prog 67 #[.agg #[.int .i64 n, .int .i64 a, .int .i64 b, .int .i64 c], .iface 123 (.agg #[.iface (nodeT x) (nodeP x)])] w _
  go_enter Try.func67, Try.ntmps67
  go_wp2_with fail
  obtain ⟨wb, hwb⟩ : ∃ wb : World, wb = (w.alloc (.cells #[.int .i64 n, .int .i64 a, .int .i64 b, .int .i64 c] 98)).alloc (.cells #[.iface (nodeT x) (nodeP x)] 123) := ⟨_, rfl⟩
  have hb : wb.drew.cell? ⟨w.heap.size, 0, none⟩ = some (.int .i64 n) ∧ wb.drew.cell? ⟨w.heap.size, 1, none⟩ = some (.int .i64 a) ∧ wb.drew.cell? ⟨w.heap.size, 2, none⟩ = some (.int .i64 b) ∧ wb.drew.cell? ⟨w.heap.size, 3, none⟩ = some (.int .i64 c) ∧ wb.drew.cell? ⟨w.heap.size + 1, 0, none⟩ = some (.iface (nodeT x) (nodeP x)) ∧ w.grownBy wb.drew none := by
    rw [hwb]
    exact ⟨old_cell _ rfl, old_cell _ rfl, old_cell _ rfl, old_cell _ rfl, new_cell (by simp) rfl, grownBy_drew (grownBy_trans (World.grownBy_alloc _ _ _) (World.grownBy_alloc _ _ _))⟩
  rw [← hwb]
  clear hwb h1 h2 h3
  go_region_held3 (fun w' => w'.cell? ⟨w.heap.size, 0, none⟩ = some (.int .i64 n) ∧ w'.cell? ⟨w.heap.size, 1, none⟩ = some (.int .i64 a) ∧ w'.cell? ⟨w.heap.size, 2, none⟩ = some (.int .i64 b) ∧ w'.cell? ⟨w.heap.size, 3, none⟩ = some (.int .i64 c) ∧ w'.cell? ⟨w.heap.size + 1, 0, none⟩ = some (.iface (nodeT x) (nodeP x)) ∧ w.grownBy w' none)
    (first | exact hb | exact held5 (by assumption) gx | assumption)
    (first | (go_at_call 88; refine (not_any _ _ _).mono ?_; rintro e w3 ⟨rfl, rfl⟩) | (go_at_call 67; refine (ih _).mono ?_; rintro e w2 ⟨rfl, gx⟩))
  all_goals
    go_wp2_with fail
    go_ret
    exact ⟨rfl, grownBy_trans hb.2.2.2.2.2 gx⟩

set_option maxHeartbeats 4000000 in
theorem vt_fol {n a b c : Int} {x y : Tr} (hx : vokB n (x.val n a b c) = true) (hy : vokB n (y.val n a b c) = true) (ihx : VtOk n a b c x) (ihy : VtOk n a b c y) : VtOk n a b c (.bin .fol x y) := by
  intro w
  have h1 := as_bin_1
  have h2 := as_bin_2
  have h3 := as_bin_3
  have h4 := as_bin_4
  show Calls Try.prog 67 #[.agg #[.int .i64 n, .int .i64 a, .int .i64 b, .int .i64 c], .iface 128 (.agg #[.string ⟨#[62]⟩, .func (.func 92) #[] #[], .iface (nodeT x) (nodeP x), .iface (nodeT y) (nodeP y)])] w _
  go_enter Try.func67, Try.ntmps67
  go_wp2_with fail
  obtain ⟨wb, hwb⟩ : ∃ wb : World, wb = (w.alloc (.cells #[.int .i64 n, .int .i64 a, .int .i64 b, .int .i64 c] 98)).alloc (.cells #[.string ⟨#[62]⟩, .func (.func 92) #[] #[], .iface (nodeT x) (nodeP x), .iface (nodeT y) (nodeP y)] 128) := ⟨_, rfl⟩
  have hb : wb.drew.cell? ⟨w.heap.size, 0, none⟩ = some (.int .i64 n) ∧ wb.drew.cell? ⟨w.heap.size, 1, none⟩ = some (.int .i64 a) ∧ wb.drew.cell? ⟨w.heap.size, 2, none⟩ = some (.int .i64 b) ∧ wb.drew.cell? ⟨w.heap.size, 3, none⟩ = some (.int .i64 c) ∧ wb.drew.cell? ⟨w.heap.size + 1, 1, none⟩ = some (.func (.func 92) #[] #[]) ∧ wb.drew.cell? ⟨w.heap.size + 1, 2, none⟩ = some (.iface (nodeT x) (nodeP x)) ∧ wb.drew.cell? ⟨w.heap.size + 1, 3, none⟩ = some (.iface (nodeT y) (nodeP y)) ∧ w.grownBy wb.drew none := by
    rw [hwb]
    exact ⟨old_cell _ rfl, old_cell _ rfl, old_cell _ rfl, old_cell _ rfl, new_cell (by simp) rfl, new_cell (by simp) rfl, new_cell (by simp) rfl, grownBy_drew (grownBy_trans (World.grownBy_alloc _ _ _) (World.grownBy_alloc _ _ _))⟩
  rw [← hwb]
  clear hwb h1 h2 h3 h4
  have ht := twoB_mk hx hy
  have cx : ∀ w : World, Calls Try.prog 67 #[.agg #[.int .i64 n, .int .i64 a, .int .i64 b, .int .i64 c], .iface (nodeT x) (nodeP x)] w fun e w' => e = .returned (.int .i64 (x.val n a b c)) ∧ w.grownBy w' none := ihx
  have cy : ∀ w : World, Calls Try.prog 67 #[.agg #[.int .i64 n, .int .i64 a, .int .i64 b, .int .i64 c], .iface (nodeT y) (nodeP y)] w fun e w' => e = .returned (.int .i64 (y.val n a b c)) ∧ w.grownBy w' none := ihy
  clear ihx ihy
  go_region_held3 (fun w' => w'.cell? ⟨w.heap.size, 0, none⟩ = some (.int .i64 n) ∧ w'.cell? ⟨w.heap.size, 1, none⟩ = some (.int .i64 a) ∧ w'.cell? ⟨w.heap.size, 2, none⟩ = some (.int .i64 b) ∧ w'.cell? ⟨w.heap.size, 3, none⟩ = some (.int .i64 c) ∧ w'.cell? ⟨w.heap.size + 1, 1, none⟩ = some (.func (.func 92) #[] #[]) ∧ w'.cell? ⟨w.heap.size + 1, 2, none⟩ = some (.iface (nodeT x) (nodeP x)) ∧ w'.cell? ⟨w.heap.size + 1, 3, none⟩ = some (.iface (nodeT y) (nodeP y)) ∧ w.grownBy w' none)
    (first | exact hb | exact held7 (by assumption) gx | exact held7 (by assumption) gy | assumption)
    (first | (go_at_call 67; (with_reducible refine (cx _).mono ?_); rintro e w2 ⟨rfl, gx⟩) | (go_at_call 67; (with_reducible refine (cy _).mono ?_); rintro e w3 ⟨rfl, gy⟩) | (go_at_call 92; (with_reducible refine (fol_lit n _ _ ht _).mono ?_); rintro e w4 ⟨rfl, rfl⟩))
  all_goals
    go_wp2_with fail
    go_ret
    exact ⟨rfl, grownBy_trans (grownBy_trans hb.2.2.2.2.2.2.2 gx) gy⟩

set_option maxHeartbeats 4000000 in
theorem vt_plus {n a b c : Int} {x y : Tr} (hx : vokB n (x.val n a b c) = true) (hy : vokB n (y.val n a b c) = true) (ihx : VtOk n a b c x) (ihy : VtOk n a b c y) : VtOk n a b c (.bin .plus x y) := by
  intro w
  have h1 := as_bin_1
  have h2 := as_bin_2
  have h3 := as_bin_3
  have h4 := as_bin_4
  show Calls Try.prog 67 #[.agg #[.int .i64 n, .int .i64 a, .int .i64 b, .int .i64 c], .iface 128 (.agg #[.string ⟨#[43]⟩, .func (.func 93) #[] #[], .iface (nodeT x) (nodeP x), .iface (nodeT y) (nodeP y)])] w _
  go_enter Try.func67, Try.ntmps67
  go_wp2_with fail
  obtain ⟨wb, hwb⟩ : ∃ wb : World, wb = (w.alloc (.cells #[.int .i64 n, .int .i64 a, .int .i64 b, .int .i64 c] 98)).alloc (.cells #[.string ⟨#[43]⟩, .func (.func 93) #[] #[], .iface (nodeT x) (nodeP x), .iface (nodeT y) (nodeP y)] 128) := ⟨_, rfl⟩
  have hb : wb.drew.cell? ⟨w.heap.size, 0, none⟩ = some (.int .i64 n) ∧ wb.drew.cell? ⟨w.heap.size, 1, none⟩ = some (.int .i64 a) ∧ wb.drew.cell? ⟨w.heap.size, 2, none⟩ = some (.int .i64 b) ∧ wb.drew.cell? ⟨w.heap.size, 3, none⟩ = some (.int .i64 c) ∧ wb.drew.cell? ⟨w.heap.size + 1, 1, none⟩ = some (.func (.func 93) #[] #[]) ∧ wb.drew.cell? ⟨w.heap.size + 1, 2, none⟩ = some (.iface (nodeT x) (nodeP x)) ∧ wb.drew.cell? ⟨w.heap.size + 1, 3, none⟩ = some (.iface (nodeT y) (nodeP y)) ∧ w.grownBy wb.drew none := by
    rw [hwb]
    exact ⟨old_cell _ rfl, old_cell _ rfl, old_cell _ rfl, old_cell _ rfl, new_cell (by simp) rfl, new_cell (by simp) rfl, new_cell (by simp) rfl, grownBy_drew (grownBy_trans (World.grownBy_alloc _ _ _) (World.grownBy_alloc _ _ _))⟩
  rw [← hwb]
  clear hwb h1 h2 h3 h4
  have ht := twoB_mk hx hy
  have cx : ∀ w : World, Calls Try.prog 67 #[.agg #[.int .i64 n, .int .i64 a, .int .i64 b, .int .i64 c], .iface (nodeT x) (nodeP x)] w fun e w' => e = .returned (.int .i64 (x.val n a b c)) ∧ w.grownBy w' none := ihx
  have cy : ∀ w : World, Calls Try.prog 67 #[.agg #[.int .i64 n, .int .i64 a, .int .i64 b, .int .i64 c], .iface (nodeT y) (nodeP y)] w fun e w' => e = .returned (.int .i64 (y.val n a b c)) ∧ w.grownBy w' none := ihy
  clear ihx ihy
  go_region_held3 (fun w' => w'.cell? ⟨w.heap.size, 0, none⟩ = some (.int .i64 n) ∧ w'.cell? ⟨w.heap.size, 1, none⟩ = some (.int .i64 a) ∧ w'.cell? ⟨w.heap.size, 2, none⟩ = some (.int .i64 b) ∧ w'.cell? ⟨w.heap.size, 3, none⟩ = some (.int .i64 c) ∧ w'.cell? ⟨w.heap.size + 1, 1, none⟩ = some (.func (.func 93) #[] #[]) ∧ w'.cell? ⟨w.heap.size + 1, 2, none⟩ = some (.iface (nodeT x) (nodeP x)) ∧ w'.cell? ⟨w.heap.size + 1, 3, none⟩ = some (.iface (nodeT y) (nodeP y)) ∧ w.grownBy w' none)
    (first | exact hb | exact held7 (by assumption) gx | exact held7 (by assumption) gy | assumption)
    (first | (go_at_call 67; (with_reducible refine (cx _).mono ?_); rintro e w2 ⟨rfl, gx⟩) | (go_at_call 67; (with_reducible refine (cy _).mono ?_); rintro e w3 ⟨rfl, gy⟩) | (go_at_call 93; (with_reducible refine (plus_lit n _ _ ht _).mono ?_); rintro e w4 ⟨rfl, rfl⟩))
  all_goals
    go_wp2_with fail
    go_ret
    exact ⟨rfl, grownBy_trans (grownBy_trans hb.2.2.2.2.2.2.2 gx) gy⟩

set_option maxHeartbeats 4000000 in
theorem vt_times {n a b c : Int} {x y : Tr} (hx : vokB n (x.val n a b c) = true) (hy : vokB n (y.val n a b c) = true) (ihx : VtOk n a b c x) (ihy : VtOk n a b c y) : VtOk n a b c (.bin .times x y) := by
  intro w
  have h1 := as_bin_1
  have h2 := as_bin_2
  have h3 := as_bin_3
  have h4 := as_bin_4
  show Calls Try.prog 67 #[.agg #[.int .i64 n, .int .i64 a, .int .i64 b, .int .i64 c], .iface 128 (.agg #[.string ⟨#[42]⟩, .func (.func 94) #[] #[], .iface (nodeT x) (nodeP x), .iface (nodeT y) (nodeP y)])] w _
  go_enter Try.func67, Try.ntmps67
  go_wp2_with fail
  obtain ⟨wb, hwb⟩ : ∃ wb : World, wb = (w.alloc (.cells #[.int .i64 n, .int .i64 a, .int .i64 b, .int .i64 c] 98)).alloc (.cells #[.string ⟨#[42]⟩, .func (.func 94) #[] #[], .iface (nodeT x) (nodeP x), .iface (nodeT y) (nodeP y)] 128) := ⟨_, rfl⟩
  have hb : wb.drew.cell? ⟨w.heap.size, 0, none⟩ = some (.int .i64 n) ∧ wb.drew.cell? ⟨w.heap.size, 1, none⟩ = some (.int .i64 a) ∧ wb.drew.cell? ⟨w.heap.size, 2, none⟩ = some (.int .i64 b) ∧ wb.drew.cell? ⟨w.heap.size, 3, none⟩ = some (.int .i64 c) ∧ wb.drew.cell? ⟨w.heap.size + 1, 1, none⟩ = some (.func (.func 94) #[] #[]) ∧ wb.drew.cell? ⟨w.heap.size + 1, 2, none⟩ = some (.iface (nodeT x) (nodeP x)) ∧ wb.drew.cell? ⟨w.heap.size + 1, 3, none⟩ = some (.iface (nodeT y) (nodeP y)) ∧ w.grownBy wb.drew none := by
    rw [hwb]
    exact ⟨old_cell _ rfl, old_cell _ rfl, old_cell _ rfl, old_cell _ rfl, new_cell (by simp) rfl, new_cell (by simp) rfl, new_cell (by simp) rfl, grownBy_drew (grownBy_trans (World.grownBy_alloc _ _ _) (World.grownBy_alloc _ _ _))⟩
  rw [← hwb]
  clear hwb h1 h2 h3 h4
  have ht := twoB_mk hx hy
  have cx : ∀ w : World, Calls Try.prog 67 #[.agg #[.int .i64 n, .int .i64 a, .int .i64 b, .int .i64 c], .iface (nodeT x) (nodeP x)] w fun e w' => e = .returned (.int .i64 (x.val n a b c)) ∧ w.grownBy w' none := ihx
  have cy : ∀ w : World, Calls Try.prog 67 #[.agg #[.int .i64 n, .int .i64 a, .int .i64 b, .int .i64 c], .iface (nodeT y) (nodeP y)] w fun e w' => e = .returned (.int .i64 (y.val n a b c)) ∧ w.grownBy w' none := ihy
  clear ihx ihy
  go_region_held3 (fun w' => w'.cell? ⟨w.heap.size, 0, none⟩ = some (.int .i64 n) ∧ w'.cell? ⟨w.heap.size, 1, none⟩ = some (.int .i64 a) ∧ w'.cell? ⟨w.heap.size, 2, none⟩ = some (.int .i64 b) ∧ w'.cell? ⟨w.heap.size, 3, none⟩ = some (.int .i64 c) ∧ w'.cell? ⟨w.heap.size + 1, 1, none⟩ = some (.func (.func 94) #[] #[]) ∧ w'.cell? ⟨w.heap.size + 1, 2, none⟩ = some (.iface (nodeT x) (nodeP x)) ∧ w'.cell? ⟨w.heap.size + 1, 3, none⟩ = some (.iface (nodeT y) (nodeP y)) ∧ w.grownBy w' none)
    (first | exact hb | exact held7 (by assumption) gx | exact held7 (by assumption) gy | assumption)
    (first | (go_at_call 67; (with_reducible refine (cx _).mono ?_); rintro e w2 ⟨rfl, gx⟩) | (go_at_call 67; (with_reducible refine (cy _).mono ?_); rintro e w3 ⟨rfl, gy⟩) | (go_at_call 94; (with_reducible refine (times_lit n _ _ ht _).mono ?_); rintro e w4 ⟨rfl, rfl⟩))
  all_goals
    go_wp2_with fail
    go_ret
    exact ⟨rfl, grownBy_trans (grownBy_trans hb.2.2.2.2.2.2.2 gx) gy⟩

set_option maxHeartbeats 4000000 in
theorem vt_less {n a b c : Int} {x y : Tr} (hx : vokB n (x.val n a b c) = true) (hy : vokB n (y.val n a b c) = true) (ihx : VtOk n a b c x) (ihy : VtOk n a b c y) : VtOk n a b c (.bin .less x y) := by
  intro w
  have h1 := as_bin_1
  have h2 := as_bin_2
  have h3 := as_bin_3
  have h4 := as_bin_4
  show Calls Try.prog 67 #[.agg #[.int .i64 n, .int .i64 a, .int .i64 b, .int .i64 c], .iface 128 (.agg #[.string ⟨#[38]⟩, .func (.func 95) #[] #[], .iface (nodeT x) (nodeP x), .iface (nodeT y) (nodeP y)])] w _
  go_enter Try.func67, Try.ntmps67
  go_wp2_with fail
  obtain ⟨wb, hwb⟩ : ∃ wb : World, wb = (w.alloc (.cells #[.int .i64 n, .int .i64 a, .int .i64 b, .int .i64 c] 98)).alloc (.cells #[.string ⟨#[38]⟩, .func (.func 95) #[] #[], .iface (nodeT x) (nodeP x), .iface (nodeT y) (nodeP y)] 128) := ⟨_, rfl⟩
  have hb : wb.drew.cell? ⟨w.heap.size, 0, none⟩ = some (.int .i64 n) ∧ wb.drew.cell? ⟨w.heap.size, 1, none⟩ = some (.int .i64 a) ∧ wb.drew.cell? ⟨w.heap.size, 2, none⟩ = some (.int .i64 b) ∧ wb.drew.cell? ⟨w.heap.size, 3, none⟩ = some (.int .i64 c) ∧ wb.drew.cell? ⟨w.heap.size + 1, 1, none⟩ = some (.func (.func 95) #[] #[]) ∧ wb.drew.cell? ⟨w.heap.size + 1, 2, none⟩ = some (.iface (nodeT x) (nodeP x)) ∧ wb.drew.cell? ⟨w.heap.size + 1, 3, none⟩ = some (.iface (nodeT y) (nodeP y)) ∧ w.grownBy wb.drew none := by
    rw [hwb]
    exact ⟨old_cell _ rfl, old_cell _ rfl, old_cell _ rfl, old_cell _ rfl, new_cell (by simp) rfl, new_cell (by simp) rfl, new_cell (by simp) rfl, grownBy_drew (grownBy_trans (World.grownBy_alloc _ _ _) (World.grownBy_alloc _ _ _))⟩
  rw [← hwb]
  clear hwb h1 h2 h3 h4
  have ht := twoB_mk hx hy
  have cx : ∀ w : World, Calls Try.prog 67 #[.agg #[.int .i64 n, .int .i64 a, .int .i64 b, .int .i64 c], .iface (nodeT x) (nodeP x)] w fun e w' => e = .returned (.int .i64 (x.val n a b c)) ∧ w.grownBy w' none := ihx
  have cy : ∀ w : World, Calls Try.prog 67 #[.agg #[.int .i64 n, .int .i64 a, .int .i64 b, .int .i64 c], .iface (nodeT y) (nodeP y)] w fun e w' => e = .returned (.int .i64 (y.val n a b c)) ∧ w.grownBy w' none := ihy
  clear ihx ihy
  go_region_held3 (fun w' => w'.cell? ⟨w.heap.size, 0, none⟩ = some (.int .i64 n) ∧ w'.cell? ⟨w.heap.size, 1, none⟩ = some (.int .i64 a) ∧ w'.cell? ⟨w.heap.size, 2, none⟩ = some (.int .i64 b) ∧ w'.cell? ⟨w.heap.size, 3, none⟩ = some (.int .i64 c) ∧ w'.cell? ⟨w.heap.size + 1, 1, none⟩ = some (.func (.func 95) #[] #[]) ∧ w'.cell? ⟨w.heap.size + 1, 2, none⟩ = some (.iface (nodeT x) (nodeP x)) ∧ w'.cell? ⟨w.heap.size + 1, 3, none⟩ = some (.iface (nodeT y) (nodeP y)) ∧ w.grownBy w' none)
    (first | exact hb | exact held7 (by assumption) gx | exact held7 (by assumption) gy | assumption)
    (first | (go_at_call 67; (with_reducible refine (cx _).mono ?_); rintro e w2 ⟨rfl, gx⟩) | (go_at_call 67; (with_reducible refine (cy _).mono ?_); rintro e w3 ⟨rfl, gy⟩) | (go_at_call 95; (with_reducible refine (less_lit n _ _ ht _).mono ?_); rintro e w4 ⟨rfl, rfl⟩))
  all_goals
    go_wp2_with fail
    go_ret
    exact ⟨rfl, grownBy_trans (grownBy_trans hb.2.2.2.2.2.2.2 gx) gy⟩

set_option maxHeartbeats 4000000 in
theorem vt_great {n a b c : Int} {x y : Tr} (hx : vokB n (x.val n a b c) = true) (hy : vokB n (y.val n a b c) = true) (ihx : VtOk n a b c x) (ihy : VtOk n a b c y) : VtOk n a b c (.bin .great x y) := by
  intro w
  have h1 := as_bin_1
  have h2 := as_bin_2
  have h3 := as_bin_3
  have h4 := as_bin_4
  show Calls Try.prog 67 #[.agg #[.int .i64 n, .int .i64 a, .int .i64 b, .int .i64 c], .iface 128 (.agg #[.string ⟨#[124]⟩, .func (.func 96) #[] #[], .iface (nodeT x) (nodeP x), .iface (nodeT y) (nodeP y)])] w _
  go_enter Try.func67, Try.ntmps67
  go_wp2_with fail
  obtain ⟨wb, hwb⟩ : ∃ wb : World, wb = (w.alloc (.cells #[.int .i64 n, .int .i64 a, .int .i64 b, .int .i64 c] 98)).alloc (.cells #[.string ⟨#[124]⟩, .func (.func 96) #[] #[], .iface (nodeT x) (nodeP x), .iface (nodeT y) (nodeP y)] 128) := ⟨_, rfl⟩
  have hb : wb.drew.cell? ⟨w.heap.size, 0, none⟩ = some (.int .i64 n) ∧ wb.drew.cell? ⟨w.heap.size, 1, none⟩ = some (.int .i64 a) ∧ wb.drew.cell? ⟨w.heap.size, 2, none⟩ = some (.int .i64 b) ∧ wb.drew.cell? ⟨w.heap.size, 3, none⟩ = some (.int .i64 c) ∧ wb.drew.cell? ⟨w.heap.size + 1, 1, none⟩ = some (.func (.func 96) #[] #[]) ∧ wb.drew.cell? ⟨w.heap.size + 1, 2, none⟩ = some (.iface (nodeT x) (nodeP x)) ∧ wb.drew.cell? ⟨w.heap.size + 1, 3, none⟩ = some (.iface (nodeT y) (nodeP y)) ∧ w.grownBy wb.drew none := by
    rw [hwb]
    exact ⟨old_cell _ rfl, old_cell _ rfl, old_cell _ rfl, old_cell _ rfl, new_cell (by simp) rfl, new_cell (by simp) rfl, new_cell (by simp) rfl, grownBy_drew (grownBy_trans (World.grownBy_alloc _ _ _) (World.grownBy_alloc _ _ _))⟩
  rw [← hwb]
  clear hwb h1 h2 h3 h4
  have ht := twoB_mk hx hy
  have cx : ∀ w : World, Calls Try.prog 67 #[.agg #[.int .i64 n, .int .i64 a, .int .i64 b, .int .i64 c], .iface (nodeT x) (nodeP x)] w fun e w' => e = .returned (.int .i64 (x.val n a b c)) ∧ w.grownBy w' none := ihx
  have cy : ∀ w : World, Calls Try.prog 67 #[.agg #[.int .i64 n, .int .i64 a, .int .i64 b, .int .i64 c], .iface (nodeT y) (nodeP y)] w fun e w' => e = .returned (.int .i64 (y.val n a b c)) ∧ w.grownBy w' none := ihy
  clear ihx ihy
  go_region_held3 (fun w' => w'.cell? ⟨w.heap.size, 0, none⟩ = some (.int .i64 n) ∧ w'.cell? ⟨w.heap.size, 1, none⟩ = some (.int .i64 a) ∧ w'.cell? ⟨w.heap.size, 2, none⟩ = some (.int .i64 b) ∧ w'.cell? ⟨w.heap.size, 3, none⟩ = some (.int .i64 c) ∧ w'.cell? ⟨w.heap.size + 1, 1, none⟩ = some (.func (.func 96) #[] #[]) ∧ w'.cell? ⟨w.heap.size + 1, 2, none⟩ = some (.iface (nodeT x) (nodeP x)) ∧ w'.cell? ⟨w.heap.size + 1, 3, none⟩ = some (.iface (nodeT y) (nodeP y)) ∧ w.grownBy w' none)
    (first | exact hb | exact held7 (by assumption) gx | exact held7 (by assumption) gy | assumption)
    (first | (go_at_call 67; (with_reducible refine (cx _).mono ?_); rintro e w2 ⟨rfl, gx⟩) | (go_at_call 67; (with_reducible refine (cy _).mono ?_); rintro e w3 ⟨rfl, gy⟩) | (go_at_call 96; (with_reducible refine (great_lit n _ _ ht _).mono ?_); rintro e w4 ⟨rfl, rfl⟩))
  all_goals
    go_wp2_with fail
    go_ret
    exact ⟨rfl, grownBy_trans (grownBy_trans hb.2.2.2.2.2.2.2 gx) gy⟩

theorem vt_bin {n a b c : Int} {g : Sg} {x y : Tr} (hx : vokB n (x.val n a b c) = true) (hy : vokB n (y.val n a b c) = true) (ihx : VtOk n a b c x) (ihy : VtOk n a b c y) : VtOk n a b c (.bin g x y) := by
  cases g
  · exact vt_fol hx hy ihx ihy
  · exact vt_plus hx hy ihx ihy
  · exact vt_times hx hy ihx ihy
  · exact vt_less hx hy ihx ihy
  · exact vt_great hx hy ihx ihy

theorem vt_all {n a b c : Int} (h : thrB n a b c = true) : ∀ t : Tr, VtOk n a b c t := by
  intro t
  induction t with
  | lt k => exact vt_lt n a b c k
  | tru b => exact vt_tru n a _ c b
  | neg x ih => exact vt_neg ih
  | bin g x y ihx ihy => exact vt_bin (val_ok h x) (val_ok h y) ihx ihy

theorem set_cells {n a b c : Int} {w w1 : World} (hg : (w.alloc (.cells #[.int .i64 n, .int .i64 a, .int .i64 b, .int .i64 c] 98)).grownBy w1 none) :
    w1.cell? ⟨w.heap.size, 0, none⟩ = some (.int .i64 n) ∧ w1.cell? ⟨w.heap.size, 1, none⟩ = some (.int .i64 a) ∧ w1.cell? ⟨w.heap.size, 2, none⟩ = some (.int .i64 b) ∧ w1.cell? ⟨w.heap.size, 3, none⟩ = some (.int .i64 c) :=
  ⟨cell_grown (World.cell?_alloc_mark w _ _ _ _) hg, cell_grown (World.cell?_alloc_mark w _ _ _ _) hg, cell_grown (World.cell?_alloc_mark w _ _ _ _) hg, cell_grown (World.cell?_alloc_mark w _ _ _ _) hg⟩

end Go.Proofs.Ytnkebgkocpeonaa
