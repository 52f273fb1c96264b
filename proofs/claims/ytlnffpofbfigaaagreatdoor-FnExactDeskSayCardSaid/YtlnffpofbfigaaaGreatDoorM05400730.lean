/-
  Joined out of the texts FAt, FBas: what each holds is told at its head.
-/
import Derived.Test.YtlnffpofbfigaaaGreatDoorM323050c2
import Derived.Laws.EntriesVeiled

/-
  impl.ValueAt: the setting, the type switch that asks each node for its value, by induction on the tree. No condition.
-/
namespace Go.Proofs.YtlnffpofbfigaaaGreatDoor
open Go.RowKit Go.Maps Go.Joins

theorem thrB_f1 {n a b c : Int} (h : vokB n a = false) : thrB n a b c = false := by unfold thrB; rw [h]; rfl
theorem thrB_f2 {n a b c : Int} (h : vokB n b = false) : thrB n a b c = false := by unfold thrB; rw [h]; cases vokB n a <;> rfl
theorem thrB_f3 {n a b c : Int} (h : vokB n c = false) : thrB n a b c = false := by unfold thrB; rw [h]; cases vokB n a <;> cases vokB n b <;> rfl

def ORel (n a b c : Int) (i : Value) : Prop :=
  ∃ k : Nat, i = .int .i64 k ∧ (k = 0 ∨ (k = 1 ∧ vokB n a = true) ∨ (k = 2 ∧ vokB n a = true ∧ vokB n b = true) ∨ (k = 3 ∧ vokB n a = true ∧ vokB n b = true ∧ vokB n c = true))

theorem setting_any (n a b c : Int) (w : World) :
    Calls Tryz.prog 159 #[.agg #[.int .i64 n, .int .i64 a, .int .i64 b, .int .i64 c]] w fun e w' => e = .returned (.bool (thrB n a b c)) ∧ w.grownBy w' none := by
  have i0 : ∀ w, (Instr.index 145 (.agg #[.int .i64 a, .int .i64 b, .int .i64 c]) (.int .i64 0)).run Tryz.prog w = .ok (.int .i64 a) w := fun _ => by kernel_rfl
  have i1 : ∀ w, (Instr.index 145 (.agg #[.int .i64 a, .int .i64 b, .int .i64 c]) (.int .i64 1)).run Tryz.prog w = .ok (.int .i64 b) w := fun _ => by kernel_rfl
  have i2 : ∀ w, (Instr.index 145 (.agg #[.int .i64 a, .int .i64 b, .int .i64 c]) (.int .i64 2)).run Tryz.prog w = .ok (.int .i64 c) w := fun _ => by kernel_rfl
  go_enter Tryz.func159, Tryz.ntmps159
  go_wp2_with fail
  go_loop [7] (fun i => ORel n a b c i) (fun i => 3 - (intOf i).toNat)
  case atStart => exact ⟨0, rfl, .inl rfl⟩
  case round =>
    obtain ⟨k, rfl, hk⟩ := hrel
    rcases hk with rfl | ⟨rfl, ha⟩ | ⟨rfl, ha, hb⟩ | ⟨rfl, ha, hb, hc⟩
    · cases h : vokB n a
      · have hz := Lib.hid (thrB_f1 (b := b) (c := c) h)
        go_wp2_with (go_at_call 58; refine (vok_any _ _ _).mono ?_; rintro e w' ⟨rfl, rfl⟩)
        go_ret
        exact ⟨by rw [hz.out]; rfl, World.grownBy_alloc _ _ _⟩
      · go_wp2_with (go_at_call 58; refine (vok_any _ _ _).mono ?_; rintro e w' ⟨rfl, rfl⟩)
        go_round
        case rel => exact ⟨1, rfl, .inr (.inl ⟨rfl, h⟩)⟩
        case measure => simp [intOf]
    · cases h : vokB n b
      · have hz := Lib.hid (thrB_f2 (a := a) (c := c) h)
        go_wp2_with (go_at_call 58; refine (vok_any _ _ _).mono ?_; rintro e w' ⟨rfl, rfl⟩)
        go_ret
        exact ⟨by rw [hz.out]; rfl, World.grownBy_alloc _ _ _⟩
      · have ha' := Lib.hid ha
        go_wp2_with (go_at_call 58; refine (vok_any _ _ _).mono ?_; rintro e w' ⟨rfl, rfl⟩)
        go_round
        case rel => exact ⟨2, rfl, .inr (.inr (.inl ⟨rfl, ha'.out, h⟩))⟩
        case measure => simp [intOf]
    · cases h : vokB n c
      · have hz := Lib.hid (thrB_f3 (a := a) (b := b) h)
        go_wp2_with (go_at_call 58; refine (vok_any _ _ _).mono ?_; rintro e w' ⟨rfl, rfl⟩)
        go_ret
        exact ⟨by rw [hz.out]; rfl, World.grownBy_alloc _ _ _⟩
      · have ha' := Lib.hid ha
        have hb' := Lib.hid hb
        go_wp2_with (go_at_call 58; refine (vok_any _ _ _).mono ?_; rintro e w' ⟨rfl, rfl⟩)
        go_round
        case rel => exact ⟨3, rfl, .inr (.inr (.inr ⟨rfl, ha'.out, hb'.out, h⟩))⟩
        case measure => simp [intOf]
    · have hz := Lib.hid (thrB_mk ha hb hc)
      go_wp2
      go_ret
      exact ⟨by rw [hz.out]; rfl, World.grownBy_alloc _ _ _⟩

theorem as_lt (w : World) (p : Value) : (Instr.typeAssert (.iface 183 p) 131 183 true).run Tryz.prog w = .ok (.tuple #[p, .bool true]) w := by kernel_rfl
theorem as_tru_1 (w : World) (p : Value) : (Instr.typeAssert (.iface 184 p) 131 183 true).run Tryz.prog w = .ok (.tuple #[.int .i64 0, .bool false]) w := by kernel_rfl
theorem as_tru_2 (w : World) (p : Value) : (Instr.typeAssert (.iface 184 p) 131 184 true).run Tryz.prog w = .ok (.tuple #[p, .bool true]) w := by kernel_rfl
theorem as_neg_1 (w : World) (p : Value) : (Instr.typeAssert (.iface 186 p) 131 183 true).run Tryz.prog w = .ok (.tuple #[.int .i64 0, .bool false]) w := by kernel_rfl
theorem as_neg_2 (w : World) (p : Value) : (Instr.typeAssert (.iface 186 p) 131 184 true).run Tryz.prog w = .ok (.tuple #[.bool false, .bool false]) w := by kernel_rfl
theorem as_neg_3 (w : World) (p : Value) : (Instr.typeAssert (.iface 186 p) 131 186 true).run Tryz.prog w = .ok (.tuple #[p, .bool true]) w := by kernel_rfl
theorem as_bin_1 (w : World) (p : Value) : (Instr.typeAssert (.iface 205 p) 131 183 true).run Tryz.prog w = .ok (.tuple #[.int .i64 0, .bool false]) w := by kernel_rfl
theorem as_bin_2 (w : World) (p : Value) : (Instr.typeAssert (.iface 205 p) 131 184 true).run Tryz.prog w = .ok (.tuple #[.bool false, .bool false]) w := by kernel_rfl
theorem as_bin_3 (w : World) (p : Value) : (Instr.typeAssert (.iface 205 p) 131 186 true).run Tryz.prog w = .ok (.tuple #[.agg #[.nilIface], .bool false]) w := by kernel_rfl
theorem as_bin_4 (w : World) (p : Value) : (Instr.typeAssert (.iface 205 p) 131 205 true).run Tryz.prog w = .ok (.tuple #[p, .bool true]) w := by kernel_rfl

def VtOk (n a b c : Int) (t : Tr) : Prop := ∀ w : World, Calls Tryz.prog 160 #[.agg #[.int .i64 n, .int .i64 a, .int .i64 b, .int .i64 c], .iface (nodeT t) (nodeP t)] w fun e w' => e = .returned (.int .i64 (t.val n a b c)) ∧ w.grownBy w' none

theorem vt_lt (n a b c : Int) (k : Lr) : VtOk n a b c (.lt k) := by
  intro w
  have h1 := as_lt
  cases k
  all_goals
    show Calls Tryz.prog 160 #[.agg #[.int .i64 n, .int .i64 a, .int .i64 b, .int .i64 c], .iface 183 (.int .i64 _)] w _
    unfold Lr.num
    go_enter Tryz.func160, Tryz.ntmps160
    go_wp2_with fail
    go_ret
    exact ⟨rfl, World.grownBy_alloc _ _ _⟩

theorem vt_tru (n a b c : Int) (k : Bool) : VtOk n a b c (.tru k) := by
  intro w
  have h1 := as_tru_1
  have h2 := as_tru_2
  cases k
  all_goals
    show Calls Tryz.prog 160 #[.agg #[.int .i64 n, .int .i64 a, .int .i64 b, .int .i64 c], .iface 184 (.bool _)] w _
    go_enter Tryz.func160, Tryz.ntmps160
    go_wp2_with fail
    go_ret
    exact ⟨rfl, World.grownBy_alloc _ _ _⟩

theorem held5 {w0 w1 w2 : World} {a b c d p : Addr} {x y z u v : Value} (h : w1.cell? a = some x ∧ w1.cell? b = some y ∧ w1.cell? c = some z ∧ w1.cell? d = some u ∧ w1.cell? p = some v ∧ w0.grownBy w1 none) (hg : w1.grownBy w2 none) :
    w2.cell? a = some x ∧ w2.cell? b = some y ∧ w2.cell? c = some z ∧ w2.cell? d = some u ∧ w2.cell? p = some v ∧ w0.grownBy w2 none :=
  ⟨cell_grown h.1 hg, cell_grown h.2.1 hg, cell_grown h.2.2.1 hg, cell_grown h.2.2.2.1 hg, cell_grown h.2.2.2.2.1 hg, grownBy_trans h.2.2.2.2.2 hg⟩
theorem held7 {w0 w1 w2 : World} {a b c d p q r : Addr} {x y z u v s t : Value} (h : w1.cell? a = some x ∧ w1.cell? b = some y ∧ w1.cell? c = some z ∧ w1.cell? d = some u ∧ w1.cell? p = some v ∧ w1.cell? q = some s ∧ w1.cell? r = some t ∧ w0.grownBy w1 none) (hg : w1.grownBy w2 none) :
    w2.cell? a = some x ∧ w2.cell? b = some y ∧ w2.cell? c = some z ∧ w2.cell? d = some u ∧ w2.cell? p = some v ∧ w2.cell? q = some s ∧ w2.cell? r = some t ∧ w0.grownBy w2 none :=
  ⟨cell_grown h.1 hg, cell_grown h.2.1 hg, cell_grown h.2.2.1 hg, cell_grown h.2.2.2.1 hg, cell_grown h.2.2.2.2.1 hg, cell_grown h.2.2.2.2.2.1 hg, cell_grown h.2.2.2.2.2.2.1 hg, grownBy_trans h.2.2.2.2.2.2.2 hg⟩

theorem old_cell {w : World} {C : Array Value} {T : TypeId} {i : Nat} {v : Value} (o : Obj) (h : C[i]? = some v) : ((w.alloc (.cells C T)).alloc o).drew.cell? ⟨w.heap.size, i, none⟩ = some v := by
  refine cell_grown (w1 := w.alloc (.cells C T)) ?_ (grownBy_drew (World.grownBy_alloc _ _ _))
  rw [World.cell?_alloc_mark]; exact h
theorem new_cell {w w1 : World} {C : Array Value} {T : TypeId} {i : Nat} {v : Value} (hs : w1.heap.size = w.heap.size + 1) (h : C[i]? = some v) : (w1.alloc (.cells C T)).drew.cell? ⟨w.heap.size + 1, i, none⟩ = some v := by
  have e := World.cell?_alloc_mark w1 C T (0, 0) i
  rw [hs] at e
  exact e.trans h

set_option maxHeartbeats 2000000 in
theorem vt_neg {n a b c : Int} {x : Tr} (ih : VtOk n a b c x) : VtOk n a b c (.neg x) := by
  intro w
  have h1 := as_neg_1
  have h2 := as_neg_2
  have h3 := as_neg_3
  show Calls Tryz.prog 160 #[.agg #[.int .i64 n, .int .i64 a, .int .i64 b, .int .i64 c], .iface 186 (.agg #[.iface (nodeT x) (nodeP x)])] w _
  go_enter Tryz.func160, Tryz.ntmps160
  go_wp2_with fail
  obtain ⟨wb, hwb⟩ : ∃ wb : World, wb = (w.alloc (.cells #[.int .i64 n, .int .i64 a, .int .i64 b, .int .i64 c] 164)).alloc (.cells #[.iface (nodeT x) (nodeP x)] 186) := ⟨_, rfl⟩
  have hb : wb.drew.cell? ⟨w.heap.size, 0, none⟩ = some (.int .i64 n) ∧ wb.drew.cell? ⟨w.heap.size, 1, none⟩ = some (.int .i64 a) ∧ wb.drew.cell? ⟨w.heap.size, 2, none⟩ = some (.int .i64 b) ∧ wb.drew.cell? ⟨w.heap.size, 3, none⟩ = some (.int .i64 c) ∧ wb.drew.cell? ⟨w.heap.size + 1, 0, none⟩ = some (.iface (nodeT x) (nodeP x)) ∧ w.grownBy wb.drew none := by
    rw [hwb]
    exact ⟨old_cell _ rfl, old_cell _ rfl, old_cell _ rfl, old_cell _ rfl, new_cell (by simp) rfl, grownBy_drew (grownBy_trans (World.grownBy_alloc _ _ _) (World.grownBy_alloc _ _ _))⟩
  rw [← hwb]
  clear hwb h1 h2 h3
  go_region_held3 (fun w' => w'.cell? ⟨w.heap.size, 0, none⟩ = some (.int .i64 n) ∧ w'.cell? ⟨w.heap.size, 1, none⟩ = some (.int .i64 a) ∧ w'.cell? ⟨w.heap.size, 2, none⟩ = some (.int .i64 b) ∧ w'.cell? ⟨w.heap.size, 3, none⟩ = some (.int .i64 c) ∧ w'.cell? ⟨w.heap.size + 1, 0, none⟩ = some (.iface (nodeT x) (nodeP x)) ∧ w.grownBy w' none)
    (first | exact hb | exact held5 (by assumption) gx | assumption)
    (first | (go_at_call 193; refine (not_any _ _ _).mono ?_; rintro e w3 ⟨rfl, rfl⟩) | (go_at_call 160; refine (ih _).mono ?_; rintro e w2 ⟨rfl, gx⟩))
  all_goals
    go_wp2_with fail
    go_ret
    exact ⟨rfl, grownBy_trans hb.2.2.2.2.2 gx⟩

set_option maxHeartbeats 4000000 in
theorem vt_fol {n a b c : Int} {x y : Tr} (hx : vokB n (x.val n a b c) = true) (hy : vokB n (y.val n a b c) = true) (ihx : VtOk n a b c x) (ihy : VtOk n a b c y) : VtOk n a b c (.bin .fol x y) := by
  intro w
  have h1 := as_bin_1
  have h2 := as_bin_2
  have h3 := as_bin_3
  have h4 := as_bin_4
  show Calls Tryz.prog 160 #[.agg #[.int .i64 n, .int .i64 a, .int .i64 b, .int .i64 c], .iface 205 (.agg #[.string ⟨#[62]⟩, .func (.func 170) #[] #[], .iface (nodeT x) (nodeP x), .iface (nodeT y) (nodeP y)])] w _
  go_enter Tryz.func160, Tryz.ntmps160
  go_wp2_with fail
  obtain ⟨wb, hwb⟩ : ∃ wb : World, wb = (w.alloc (.cells #[.int .i64 n, .int .i64 a, .int .i64 b, .int .i64 c] 164)).alloc (.cells #[.string ⟨#[62]⟩, .func (.func 170) #[] #[], .iface (nodeT x) (nodeP x), .iface (nodeT y) (nodeP y)] 205) := ⟨_, rfl⟩
  have hb : wb.drew.cell? ⟨w.heap.size, 0, none⟩ = some (.int .i64 n) ∧ wb.drew.cell? ⟨w.heap.size, 1, none⟩ = some (.int .i64 a) ∧ wb.drew.cell? ⟨w.heap.size, 2, none⟩ = some (.int .i64 b) ∧ wb.drew.cell? ⟨w.heap.size, 3, none⟩ = some (.int .i64 c) ∧ wb.drew.cell? ⟨w.heap.size + 1, 1, none⟩ = some (.func (.func 170) #[] #[]) ∧ wb.drew.cell? ⟨w.heap.size + 1, 2, none⟩ = some (.iface (nodeT x) (nodeP x)) ∧ wb.drew.cell? ⟨w.heap.size + 1, 3, none⟩ = some (.iface (nodeT y) (nodeP y)) ∧ w.grownBy wb.drew none := by
    rw [hwb]
    exact ⟨old_cell _ rfl, old_cell _ rfl, old_cell _ rfl, old_cell _ rfl, new_cell (by simp) rfl, new_cell (by simp) rfl, new_cell (by simp) rfl, grownBy_drew (grownBy_trans (World.grownBy_alloc _ _ _) (World.grownBy_alloc _ _ _))⟩
  rw [← hwb]
  clear hwb h1 h2 h3 h4
  have ht := twoB_mk hx hy
  have cx : ∀ w : World, Calls Tryz.prog 160 #[.agg #[.int .i64 n, .int .i64 a, .int .i64 b, .int .i64 c], .iface (nodeT x) (nodeP x)] w fun e w' => e = .returned (.int .i64 (x.val n a b c)) ∧ w.grownBy w' none := ihx
  have cy : ∀ w : World, Calls Tryz.prog 160 #[.agg #[.int .i64 n, .int .i64 a, .int .i64 b, .int .i64 c], .iface (nodeT y) (nodeP y)] w fun e w' => e = .returned (.int .i64 (y.val n a b c)) ∧ w.grownBy w' none := ihy
  clear ihx ihy
  go_region_held3 (fun w' => w'.cell? ⟨w.heap.size, 0, none⟩ = some (.int .i64 n) ∧ w'.cell? ⟨w.heap.size, 1, none⟩ = some (.int .i64 a) ∧ w'.cell? ⟨w.heap.size, 2, none⟩ = some (.int .i64 b) ∧ w'.cell? ⟨w.heap.size, 3, none⟩ = some (.int .i64 c) ∧ w'.cell? ⟨w.heap.size + 1, 1, none⟩ = some (.func (.func 170) #[] #[]) ∧ w'.cell? ⟨w.heap.size + 1, 2, none⟩ = some (.iface (nodeT x) (nodeP x)) ∧ w'.cell? ⟨w.heap.size + 1, 3, none⟩ = some (.iface (nodeT y) (nodeP y)) ∧ w.grownBy w' none)
    (first | exact hb | exact held7 (by assumption) gx | exact held7 (by assumption) gy | assumption)
    (first | (go_at_call 160; (with_reducible refine (cx _).mono ?_); rintro e w2 ⟨rfl, gx⟩) | (go_at_call 160; (with_reducible refine (cy _).mono ?_); rintro e w3 ⟨rfl, gy⟩) | (go_at_call 170; (with_reducible refine (fol_lit n _ _ ht _).mono ?_); rintro e w4 ⟨rfl, rfl⟩))
  all_goals
    go_wp2_with fail
    go_ret
    exact ⟨rfl, grownBy_trans (grownBy_trans hb.2.2.2.2.2.2.2 gx) gy⟩

set_option maxHeartbeats 4000000 in
theorem vt_plus {n a b c : Int} {x y : Tr} (hx : vokB n (x.val n a b c) = true) (hy : vokB n (y.val n a b c) = true) (ihx : VtOk n a b c x) (ihy : VtOk n a b c y) : VtOk n a b c (.bin .plus x y) := by
  intro w
  have h1 := as_bin_1
  have h2 := as_bin_2
  have h3 := as_bin_3
  have h4 := as_bin_4
  show Calls Tryz.prog 160 #[.agg #[.int .i64 n, .int .i64 a, .int .i64 b, .int .i64 c], .iface 205 (.agg #[.string ⟨#[43]⟩, .func (.func 171) #[] #[], .iface (nodeT x) (nodeP x), .iface (nodeT y) (nodeP y)])] w _
  go_enter Tryz.func160, Tryz.ntmps160
  go_wp2_with fail
  obtain ⟨wb, hwb⟩ : ∃ wb : World, wb = (w.alloc (.cells #[.int .i64 n, .int .i64 a, .int .i64 b, .int .i64 c] 164)).alloc (.cells #[.string ⟨#[43]⟩, .func (.func 171) #[] #[], .iface (nodeT x) (nodeP x), .iface (nodeT y) (nodeP y)] 205) := ⟨_, rfl⟩
  have hb : wb.drew.cell? ⟨w.heap.size, 0, none⟩ = some (.int .i64 n) ∧ wb.drew.cell? ⟨w.heap.size, 1, none⟩ = some (.int .i64 a) ∧ wb.drew.cell? ⟨w.heap.size, 2, none⟩ = some (.int .i64 b) ∧ wb.drew.cell? ⟨w.heap.size, 3, none⟩ = some (.int .i64 c) ∧ wb.drew.cell? ⟨w.heap.size + 1, 1, none⟩ = some (.func (.func 171) #[] #[]) ∧ wb.drew.cell? ⟨w.heap.size + 1, 2, none⟩ = some (.iface (nodeT x) (nodeP x)) ∧ wb.drew.cell? ⟨w.heap.size + 1, 3, none⟩ = some (.iface (nodeT y) (nodeP y)) ∧ w.grownBy wb.drew none := by
    rw [hwb]
    exact ⟨old_cell _ rfl, old_cell _ rfl, old_cell _ rfl, old_cell _ rfl, new_cell (by simp) rfl, new_cell (by simp) rfl, new_cell (by simp) rfl, grownBy_drew (grownBy_trans (World.grownBy_alloc _ _ _) (World.grownBy_alloc _ _ _))⟩
  rw [← hwb]
  clear hwb h1 h2 h3 h4
  have ht := twoB_mk hx hy
  have cx : ∀ w : World, Calls Tryz.prog 160 #[.agg #[.int .i64 n, .int .i64 a, .int .i64 b, .int .i64 c], .iface (nodeT x) (nodeP x)] w fun e w' => e = .returned (.int .i64 (x.val n a b c)) ∧ w.grownBy w' none := ihx
  have cy : ∀ w : World, Calls Tryz.prog 160 #[.agg #[.int .i64 n, .int .i64 a, .int .i64 b, .int .i64 c], .iface (nodeT y) (nodeP y)] w fun e w' => e = .returned (.int .i64 (y.val n a b c)) ∧ w.grownBy w' none := ihy
  clear ihx ihy
  go_region_held3 (fun w' => w'.cell? ⟨w.heap.size, 0, none⟩ = some (.int .i64 n) ∧ w'.cell? ⟨w.heap.size, 1, none⟩ = some (.int .i64 a) ∧ w'.cell? ⟨w.heap.size, 2, none⟩ = some (.int .i64 b) ∧ w'.cell? ⟨w.heap.size, 3, none⟩ = some (.int .i64 c) ∧ w'.cell? ⟨w.heap.size + 1, 1, none⟩ = some (.func (.func 171) #[] #[]) ∧ w'.cell? ⟨w.heap.size + 1, 2, none⟩ = some (.iface (nodeT x) (nodeP x)) ∧ w'.cell? ⟨w.heap.size + 1, 3, none⟩ = some (.iface (nodeT y) (nodeP y)) ∧ w.grownBy w' none)
    (first | exact hb | exact held7 (by assumption) gx | exact held7 (by assumption) gy | assumption)
    (first | (go_at_call 160; (with_reducible refine (cx _).mono ?_); rintro e w2 ⟨rfl, gx⟩) | (go_at_call 160; (with_reducible refine (cy _).mono ?_); rintro e w3 ⟨rfl, gy⟩) | (go_at_call 171; (with_reducible refine (plus_lit n _ _ ht _).mono ?_); rintro e w4 ⟨rfl, rfl⟩))
  all_goals
    go_wp2_with fail
    go_ret
    exact ⟨rfl, grownBy_trans (grownBy_trans hb.2.2.2.2.2.2.2 gx) gy⟩

set_option maxHeartbeats 4000000 in
theorem vt_times {n a b c : Int} {x y : Tr} (hx : vokB n (x.val n a b c) = true) (hy : vokB n (y.val n a b c) = true) (ihx : VtOk n a b c x) (ihy : VtOk n a b c y) : VtOk n a b c (.bin .times x y) := by
  intro w
  have h1 := as_bin_1
  have h2 := as_bin_2
  have h3 := as_bin_3
  have h4 := as_bin_4
  show Calls Tryz.prog 160 #[.agg #[.int .i64 n, .int .i64 a, .int .i64 b, .int .i64 c], .iface 205 (.agg #[.string ⟨#[42]⟩, .func (.func 172) #[] #[], .iface (nodeT x) (nodeP x), .iface (nodeT y) (nodeP y)])] w _
  go_enter Tryz.func160, Tryz.ntmps160
  go_wp2_with fail
  obtain ⟨wb, hwb⟩ : ∃ wb : World, wb = (w.alloc (.cells #[.int .i64 n, .int .i64 a, .int .i64 b, .int .i64 c] 164)).alloc (.cells #[.string ⟨#[42]⟩, .func (.func 172) #[] #[], .iface (nodeT x) (nodeP x), .iface (nodeT y) (nodeP y)] 205) := ⟨_, rfl⟩
  have hb : wb.drew.cell? ⟨w.heap.size, 0, none⟩ = some (.int .i64 n) ∧ wb.drew.cell? ⟨w.heap.size, 1, none⟩ = some (.int .i64 a) ∧ wb.drew.cell? ⟨w.heap.size, 2, none⟩ = some (.int .i64 b) ∧ wb.drew.cell? ⟨w.heap.size, 3, none⟩ = some (.int .i64 c) ∧ wb.drew.cell? ⟨w.heap.size + 1, 1, none⟩ = some (.func (.func 172) #[] #[]) ∧ wb.drew.cell? ⟨w.heap.size + 1, 2, none⟩ = some (.iface (nodeT x) (nodeP x)) ∧ wb.drew.cell? ⟨w.heap.size + 1, 3, none⟩ = some (.iface (nodeT y) (nodeP y)) ∧ w.grownBy wb.drew none := by
    rw [hwb]
    exact ⟨old_cell _ rfl, old_cell _ rfl, old_cell _ rfl, old_cell _ rfl, new_cell (by simp) rfl, new_cell (by simp) rfl, new_cell (by simp) rfl, grownBy_drew (grownBy_trans (World.grownBy_alloc _ _ _) (World.grownBy_alloc _ _ _))⟩
  rw [← hwb]
  clear hwb h1 h2 h3 h4
  have ht := twoB_mk hx hy
  have cx : ∀ w : World, Calls Tryz.prog 160 #[.agg #[.int .i64 n, .int .i64 a, .int .i64 b, .int .i64 c], .iface (nodeT x) (nodeP x)] w fun e w' => e = .returned (.int .i64 (x.val n a b c)) ∧ w.grownBy w' none := ihx
  have cy : ∀ w : World, Calls Tryz.prog 160 #[.agg #[.int .i64 n, .int .i64 a, .int .i64 b, .int .i64 c], .iface (nodeT y) (nodeP y)] w fun e w' => e = .returned (.int .i64 (y.val n a b c)) ∧ w.grownBy w' none := ihy
  clear ihx ihy
  go_region_held3 (fun w' => w'.cell? ⟨w.heap.size, 0, none⟩ = some (.int .i64 n) ∧ w'.cell? ⟨w.heap.size, 1, none⟩ = some (.int .i64 a) ∧ w'.cell? ⟨w.heap.size, 2, none⟩ = some (.int .i64 b) ∧ w'.cell? ⟨w.heap.size, 3, none⟩ = some (.int .i64 c) ∧ w'.cell? ⟨w.heap.size + 1, 1, none⟩ = some (.func (.func 172) #[] #[]) ∧ w'.cell? ⟨w.heap.size + 1, 2, none⟩ = some (.iface (nodeT x) (nodeP x)) ∧ w'.cell? ⟨w.heap.size + 1, 3, none⟩ = some (.iface (nodeT y) (nodeP y)) ∧ w.grownBy w' none)
    (first | exact hb | exact held7 (by assumption) gx | exact held7 (by assumption) gy | assumption)
    (first | (go_at_call 160; (with_reducible refine (cx _).mono ?_); rintro e w2 ⟨rfl, gx⟩) | (go_at_call 160; (with_reducible refine (cy _).mono ?_); rintro e w3 ⟨rfl, gy⟩) | (go_at_call 172; (with_reducible refine (times_lit n _ _ ht _).mono ?_); rintro e w4 ⟨rfl, rfl⟩))
  all_goals
    go_wp2_with fail
    go_ret
    exact ⟨rfl, grownBy_trans (grownBy_trans hb.2.2.2.2.2.2.2 gx) gy⟩

set_option maxHeartbeats 4000000 in
theorem vt_less {n a b c : Int} {x y : Tr} (hx : vokB n (x.val n a b c) = true) (hy : vokB n (y.val n a b c) = true) (ihx : VtOk n a b c x) (ihy : VtOk n a b c y) : VtOk n a b c (.bin .less x y) := by
  intro w
  have h1 := as_bin_1
  have h2 := as_bin_2
  have h3 := as_bin_3
  have h4 := as_bin_4
  show Calls Tryz.prog 160 #[.agg #[.int .i64 n, .int .i64 a, .int .i64 b, .int .i64 c], .iface 205 (.agg #[.string ⟨#[38]⟩, .func (.func 173) #[] #[], .iface (nodeT x) (nodeP x), .iface (nodeT y) (nodeP y)])] w _
  go_enter Tryz.func160, Tryz.ntmps160
  go_wp2_with fail
  obtain ⟨wb, hwb⟩ : ∃ wb : World, wb = (w.alloc (.cells #[.int .i64 n, .int .i64 a, .int .i64 b, .int .i64 c] 164)).alloc (.cells #[.string ⟨#[38]⟩, .func (.func 173) #[] #[], .iface (nodeT x) (nodeP x), .iface (nodeT y) (nodeP y)] 205) := ⟨_, rfl⟩
  have hb : wb.drew.cell? ⟨w.heap.size, 0, none⟩ = some (.int .i64 n) ∧ wb.drew.cell? ⟨w.heap.size, 1, none⟩ = some (.int .i64 a) ∧ wb.drew.cell? ⟨w.heap.size, 2, none⟩ = some (.int .i64 b) ∧ wb.drew.cell? ⟨w.heap.size, 3, none⟩ = some (.int .i64 c) ∧ wb.drew.cell? ⟨w.heap.size + 1, 1, none⟩ = some (.func (.func 173) #[] #[]) ∧ wb.drew.cell? ⟨w.heap.size + 1, 2, none⟩ = some (.iface (nodeT x) (nodeP x)) ∧ wb.drew.cell? ⟨w.heap.size + 1, 3, none⟩ = some (.iface (nodeT y) (nodeP y)) ∧ w.grownBy wb.drew none := by
    rw [hwb]
    exact ⟨old_cell _ rfl, old_cell _ rfl, old_cell _ rfl, old_cell _ rfl, new_cell (by simp) rfl, new_cell (by simp) rfl, new_cell (by simp) rfl, grownBy_drew (grownBy_trans (World.grownBy_alloc _ _ _) (World.grownBy_alloc _ _ _))⟩
  rw [← hwb]
  clear hwb h1 h2 h3 h4
  have ht := twoB_mk hx hy
  have cx : ∀ w : World, Calls Tryz.prog 160 #[.agg #[.int .i64 n, .int .i64 a, .int .i64 b, .int .i64 c], .iface (nodeT x) (nodeP x)] w fun e w' => e = .returned (.int .i64 (x.val n a b c)) ∧ w.grownBy w' none := ihx
  have cy : ∀ w : World, Calls Tryz.prog 160 #[.agg #[.int .i64 n, .int .i64 a, .int .i64 b, .int .i64 c], .iface (nodeT y) (nodeP y)] w fun e w' => e = .returned (.int .i64 (y.val n a b c)) ∧ w.grownBy w' none := ihy
  clear ihx ihy
  go_region_held3 (fun w' => w'.cell? ⟨w.heap.size, 0, none⟩ = some (.int .i64 n) ∧ w'.cell? ⟨w.heap.size, 1, none⟩ = some (.int .i64 a) ∧ w'.cell? ⟨w.heap.size, 2, none⟩ = some (.int .i64 b) ∧ w'.cell? ⟨w.heap.size, 3, none⟩ = some (.int .i64 c) ∧ w'.cell? ⟨w.heap.size + 1, 1, none⟩ = some (.func (.func 173) #[] #[]) ∧ w'.cell? ⟨w.heap.size + 1, 2, none⟩ = some (.iface (nodeT x) (nodeP x)) ∧ w'.cell? ⟨w.heap.size + 1, 3, none⟩ = some (.iface (nodeT y) (nodeP y)) ∧ w.grownBy w' none)
    (first | exact hb | exact held7 (by assumption) gx | exact held7 (by assumption) gy | assumption)
    (first | (go_at_call 160; (with_reducible refine (cx _).mono ?_); rintro e w2 ⟨rfl, gx⟩) | (go_at_call 160; (with_reducible refine (cy _).mono ?_); rintro e w3 ⟨rfl, gy⟩) | (go_at_call 173; (with_reducible refine (less_lit n _ _ ht _).mono ?_); rintro e w4 ⟨rfl, rfl⟩))
  all_goals
    go_wp2_with fail
    go_ret
    exact ⟨rfl, grownBy_trans (grownBy_trans hb.2.2.2.2.2.2.2 gx) gy⟩

set_option maxHeartbeats 4000000 in
theorem vt_great {n a b c : Int} {x y : Tr} (hx : vokB n (x.val n a b c) = true) (hy : vokB n (y.val n a b c) = true) (ihx : VtOk n a b c x) (ihy : VtOk n a b c y) : VtOk n a b c (.bin .great x y) := by
  intro w
  have h1 := as_bin_1
  have h2 := as_bin_2
  have h3 := as_bin_3
  have h4 := as_bin_4
  show Calls Tryz.prog 160 #[.agg #[.int .i64 n, .int .i64 a, .int .i64 b, .int .i64 c], .iface 205 (.agg #[.string ⟨#[124]⟩, .func (.func 174) #[] #[], .iface (nodeT x) (nodeP x), .iface (nodeT y) (nodeP y)])] w _
  go_enter Tryz.func160, Tryz.ntmps160
  go_wp2_with fail
  obtain ⟨wb, hwb⟩ : ∃ wb : World, wb = (w.alloc (.cells #[.int .i64 n, .int .i64 a, .int .i64 b, .int .i64 c] 164)).alloc (.cells #[.string ⟨#[124]⟩, .func (.func 174) #[] #[], .iface (nodeT x) (nodeP x), .iface (nodeT y) (nodeP y)] 205) := ⟨_, rfl⟩
  have hb : wb.drew.cell? ⟨w.heap.size, 0, none⟩ = some (.int .i64 n) ∧ wb.drew.cell? ⟨w.heap.size, 1, none⟩ = some (.int .i64 a) ∧ wb.drew.cell? ⟨w.heap.size, 2, none⟩ = some (.int .i64 b) ∧ wb.drew.cell? ⟨w.heap.size, 3, none⟩ = some (.int .i64 c) ∧ wb.drew.cell? ⟨w.heap.size + 1, 1, none⟩ = some (.func (.func 174) #[] #[]) ∧ wb.drew.cell? ⟨w.heap.size + 1, 2, none⟩ = some (.iface (nodeT x) (nodeP x)) ∧ wb.drew.cell? ⟨w.heap.size + 1, 3, none⟩ = some (.iface (nodeT y) (nodeP y)) ∧ w.grownBy wb.drew none := by
    rw [hwb]
    exact ⟨old_cell _ rfl, old_cell _ rfl, old_cell _ rfl, old_cell _ rfl, new_cell (by simp) rfl, new_cell (by simp) rfl, new_cell (by simp) rfl, grownBy_drew (grownBy_trans (World.grownBy_alloc _ _ _) (World.grownBy_alloc _ _ _))⟩
  rw [← hwb]
  clear hwb h1 h2 h3 h4
  have ht := twoB_mk hx hy
  have cx : ∀ w : World, Calls Tryz.prog 160 #[.agg #[.int .i64 n, .int .i64 a, .int .i64 b, .int .i64 c], .iface (nodeT x) (nodeP x)] w fun e w' => e = .returned (.int .i64 (x.val n a b c)) ∧ w.grownBy w' none := ihx
  have cy : ∀ w : World, Calls Tryz.prog 160 #[.agg #[.int .i64 n, .int .i64 a, .int .i64 b, .int .i64 c], .iface (nodeT y) (nodeP y)] w fun e w' => e = .returned (.int .i64 (y.val n a b c)) ∧ w.grownBy w' none := ihy
  clear ihx ihy
  go_region_held3 (fun w' => w'.cell? ⟨w.heap.size, 0, none⟩ = some (.int .i64 n) ∧ w'.cell? ⟨w.heap.size, 1, none⟩ = some (.int .i64 a) ∧ w'.cell? ⟨w.heap.size, 2, none⟩ = some (.int .i64 b) ∧ w'.cell? ⟨w.heap.size, 3, none⟩ = some (.int .i64 c) ∧ w'.cell? ⟨w.heap.size + 1, 1, none⟩ = some (.func (.func 174) #[] #[]) ∧ w'.cell? ⟨w.heap.size + 1, 2, none⟩ = some (.iface (nodeT x) (nodeP x)) ∧ w'.cell? ⟨w.heap.size + 1, 3, none⟩ = some (.iface (nodeT y) (nodeP y)) ∧ w.grownBy w' none)
    (first | exact hb | exact held7 (by assumption) gx | exact held7 (by assumption) gy | assumption)
    (first | (go_at_call 160; (with_reducible refine (cx _).mono ?_); rintro e w2 ⟨rfl, gx⟩) | (go_at_call 160; (with_reducible refine (cy _).mono ?_); rintro e w3 ⟨rfl, gy⟩) | (go_at_call 174; (with_reducible refine (great_lit n _ _ ht _).mono ?_); rintro e w4 ⟨rfl, rfl⟩))
  all_goals
    go_wp2_with fail
    go_ret
    exact ⟨rfl, grownBy_trans (grownBy_trans hb.2.2.2.2.2.2.2 gx) gy⟩

theorem vt_bin {n a b c : Int} {g : Sg} {x y : Tr} (hx : vokB n (x.val n a b c) = true) (hy : vokB n (y.val n a b c) = true) (ihx : VtOk n a b c x) (ihy : VtOk n a b c y) : VtOk n a b c (.bin g x y) := by
  cases g
  · exact vt_fol hx hy ihx ihy
  · exact vt_plus hx hy ihx ihy
  · exact vt_times hx hy ihx ihy
  · exact vt_less hx hy ihx ihy
  · exact vt_great hx hy ihx ihy

theorem vt_all {n a b c : Int} (h : thrB n a b c = true) : ∀ t : Tr, VtOk n a b c t := by
  intro t
  induction t with
  | lt k => exact vt_lt n a b c k
  | tru b => exact vt_tru n a _ c b
  | neg x ih => exact vt_neg ih
  | bin g x y ihx ihy => exact vt_bin (val_ok h x) (val_ok h y) ihx ihy

theorem set_cells {n a b c : Int} {w w1 : World} (hg : (w.alloc (.cells #[.int .i64 n, .int .i64 a, .int .i64 b, .int .i64 c] 164)).grownBy w1 none) :
    w1.cell? ⟨w.heap.size, 0, none⟩ = some (.int .i64 n) ∧ w1.cell? ⟨w.heap.size, 1, none⟩ = some (.int .i64 a) ∧ w1.cell? ⟨w.heap.size, 2, none⟩ = some (.int .i64 b) ∧ w1.cell? ⟨w.heap.size, 3, none⟩ = some (.int .i64 c) :=
  ⟨cell_grown (World.cell?_alloc_mark w _ _ _ _) hg, cell_grown (World.cell?_alloc_mark w _ _ _ _) hg, cell_grown (World.cell?_alloc_mark w _ _ _ _) hg, cell_grown (World.cell?_alloc_mark w _ _ _ _) hg⟩

theorem value_no (n : Int) (s : ByteArray) (a b c : Int) (w : World) (h : fOf (bl s) = none) :
    Calls Tryz.prog 132 #[.int .i64 n, .string s, .int .i64 a, .int .i64 b, .int .i64 c] w fun e w' => e = .returned (.int .i64 (-1)) ∧ w.grownBy w' none := by
  have ht := fun w => tree_no s w h
  clear h
  go_enter Tryz.func132, Tryz.ntmps132
  go_wp2_with fail
  refine (ht _).mono ?_
  rintro e w1 ⟨v, hv, rfl, g1⟩
  clear ht hv
  go_wp2_with fail
  go_ret
  exact ⟨rfl, grownBy_trans (World.grownBy_alloc _ _ _) g1⟩

theorem value_out (n : Int) (s : ByteArray) (a b c : Int) (w : World) {t : Tr} (h : fOf (bl s) = some t) (hc : thrB n a b c = false) :
    Calls Tryz.prog 132 #[.int .i64 n, .string s, .int .i64 a, .int .i64 b, .int .i64 c] w fun e w' => e = .returned (.int .i64 (-1)) ∧ w.grownBy w' none := by
  have ht := fun w => tree_yes s w h
  have hs := fun w => setting_any n a b c w
  rw [hc] at hs
  clear h hc
  go_enter Tryz.func132, Tryz.ntmps132
  go_wp2_with fail
  refine (ht _).mono ?_
  rintro e w1 ⟨rfl, g1⟩
  obtain ⟨k0, k1, k2, k3⟩ := set_cells g1
  clear ht
  go_wp2_with fail
  refine (hs _).mono ?_
  rintro e w2 ⟨rfl, g2⟩
  go_wp2_with fail
  go_ret
  exact ⟨rfl, grownBy_trans (grownBy_trans (World.grownBy_alloc _ _ _) g1) g2⟩

theorem value_in (n : Int) (s : ByteArray) (a b c : Int) (w : World) {t : Tr} (h : fOf (bl s) = some t) (hc : thrB n a b c = true) :
    Calls Tryz.prog 132 #[.int .i64 n, .string s, .int .i64 a, .int .i64 b, .int .i64 c] w fun e w' => e = .returned (.int .i64 (t.val n a b c)) ∧ w.grownBy w' none := by
  have ht := fun w => tree_yes s w h
  have hs := fun w => setting_any n a b c w
  have hv := vt_all hc t
  unfold VtOk at hv
  rw [hc] at hs
  clear h hc
  go_enter Tryz.func132, Tryz.ntmps132
  go_wp2_with fail
  refine (ht _).mono ?_
  rintro e w1 ⟨rfl, g1⟩
  obtain ⟨k0, k1, k2, k3⟩ := set_cells g1
  clear ht
  go_wp2_with fail
  refine (hs _).mono ?_
  rintro e w2 ⟨rfl, g2⟩
  have j0 := cell_grown k0 g2
  have j1 := cell_grown k1 g2
  have j2 := cell_grown k2 g2
  have j3 := cell_grown k3 g2
  clear hs k0 k1 k2 k3
  go_wp2_with fail
  refine (hv _).mono ?_
  rintro e w3 ⟨rfl, g3⟩
  clear hv
  go_wp2_with fail
  go_ret
  exact ⟨rfl, grownBy_trans (grownBy_trans (grownBy_trans (World.grownBy_alloc _ _ _) g1) g2) g3⟩

theorem value_any (n : Int) (s : ByteArray) (a b c : Int) (w : World) :
    Calls Tryz.prog 132 #[.int .i64 n, .string s, .int .i64 a, .int .i64 b, .int .i64 c] w fun e w' => e = .returned (.int .i64 (valI n (bl s) a b c)) ∧ w.grownBy w' none := by
  cases h : fOf (bl s) with
  | none => rw [valI_n h]; exact value_no n s a b c w h
  | some t =>
    cases hc : thrB n a b c
    · rw [valI_f hc]; exact value_out n s a b c w h hc
    · rw [valI_t h hc]; exact value_in n s a b c w h hc

end Go.Proofs.YtlnffpofbfigaaaGreatDoor

/-
  impl.BasicOf: a tree written with following and false alone, as texts of at most 60 bytes, by induction on the tree. No condition.
-/
namespace Go.Proofs.YtlnffpofbfigaaaGreatDoor
open Go.RowKit Go.Maps Go.Joins

theorem bfol_any (t u : Tr) (w : World) :
    Calls Tryz.prog 239 #[.string (lb t), .string (lb u)] w fun e w' => e = .returned (.string (lb (.bin .fol t u))) ∧ w = w' := by
  have s1 := lb_size t
  have s2 := lb_size u
  have hl := fol_len t u
  have m : maxLen = 9223372036854775807 := rfl
  by_cases ht : t.txt.length ≤ 60
  · by_cases hu : u.txt.length ≤ 60
    · have e1 := lb_some ht
      have e2 := lb_some hu
      have k1 := lb_len ht
      have k2 := lb_len hu
      by_cases h : t.txt.length + u.txt.length + 3 ≤ 60
      · have e := Lib.hid (lb_fol ht hu h)
        have s3 : (lb t).size + (lb u).size ≤ 57 := by omega
        clear k1 k2 hl h ht hu
        go_enter Tryz.func239, Tryz.ntmps239
        go_wp2_with (go_at_call 136; refine (ptx_any _ _ _ (by omega) rfl _).mono ?_; rintro e w1 ⟨rfl, rfl⟩)
        go_ret
        exact ⟨by rw [← e.out]; rfl, rfl⟩
      · have e := Lib.hid (lb_long (t := .bin .fol t u) (by rw [hl]; exact h))
        have s3 : 58 ≤ (lb t).size + (lb u).size := by omega
        clear k1 k2 hl h ht hu
        go_enter Tryz.func239, Tryz.ntmps239
        go_wp2_with (go_at_call 136; refine (ptx_any _ _ _ (by omega) rfl _).mono ?_; rintro e w1 ⟨rfl, rfl⟩)
        go_ret
        exact ⟨by rw [← e.out]; rfl, rfl⟩
    · have e := Lib.hid (lb_long (t := .bin .fol t u) (by rw [hl]; omega))
      have e1 := lb_some ht
      have e2 := lb_none hu
      clear hl ht hu
      go_enter Tryz.func239, Tryz.ntmps239
      go_wp2_with (go_at_call 136; refine (ptx_any _ _ _ (by omega) rfl _).mono ?_; rintro e w1 ⟨rfl, rfl⟩)
      go_ret
      exact ⟨by rw [← e.out]; rfl, rfl⟩
  · have e := Lib.hid (lb_long (t := .bin .fol t u) (by rw [hl]; omega))
    have e1 := lb_none ht
    clear hl ht
    go_enter Tryz.func239, Tryz.ntmps239
    go_wp2_with (go_at_call 136; refine (ptx_any _ _ _ (by omega) rfl _).mono ?_; rintro e w1 ⟨rfl, rfl⟩)
    go_ret
    exact ⟨by rw [← e.out]; rfl, rfl⟩

theorem lb_F : (⟨#[48]⟩ : ByteArray) = lb Tr.F := rfl

theorem bnot_any (t : Tr) (w : World) :
    Calls Tryz.prog 242 #[.string (lb t)] w fun e w' => e = .returned (.string (lb (Tr.no t))) ∧ w = w' := by
  have c1 := bfol_any t Tr.F
  rw [← lb_F] at c1
  go_enter Tryz.func242, Tryz.ntmps242
  go_wp2_with fail
  refine (c1 _).mono ?_
  rintro e w1 ⟨rfl, rfl⟩
  go_wp2_with fail
  go_ret
  exact ⟨rfl, rfl⟩

def bsFn : Tr → FuncId
  | .lt _ => 235
  | .tru _ => 237
  | .neg _ => 240
  | .bin _ _ _ => 245

theorem bs_meth (t : Tr) (F : Nat) (w : World) : (method (F + 1) (nodeT t) (nodeP t) "loop.example/manyvalues/impl.basic").run Tryz.prog w = .ok (bsFn t, nodeP t) w := by
  cases t <;> kernel_rfl

theorem bs_nil (t : Tr) (F : Nat) (w : World) : (nilAhead (F + 1) (nodeT t) (nodeP t) "loop.example/manyvalues/impl.basic").run Tryz.prog w = .ok (some false) w := by
  cases t <;> kernel_rfl

theorem bs_enter (t : Tr) (args : Array Value) (w : World) : (callFunc (bsFn t) args).run Tryz.prog w = .ok (.enter (bsFn t) args) w := by
  cases t <;> kernel_rfl

def BsOk (t : Tr) : Prop := ∀ w : World, Calls Tryz.prog (bsFn t) #[nodeP t] w fun e w' => e = .returned (.string (lb t.bas)) ∧ w.grownBy w' none

theorem bs_lt (k : Lr) : BsOk (.lt k) := by
  intro w
  cases k
  all_goals
    show Calls Tryz.prog 235 #[.int .i64 _] w _
    unfold Lr.num
    go_enter Tryz.func235, Tryz.ntmps235
    go_wp2_with fail
    go_ret
    exact ⟨rfl, grownBy_refl _ _⟩

theorem bs_tru (b : Bool) : BsOk (.tru b) := by
  intro w
  cases b
  · show Calls Tryz.prog 237 #[.bool false] w _
    go_enter Tryz.func237, Tryz.ntmps237
    go_wp2_with fail
    go_ret
    exact ⟨rfl, grownBy_refl _ _⟩
  · show Calls Tryz.prog 237 #[.bool true] w _
    have c1 := bfol_any Tr.F Tr.F
    rw [← lb_F] at c1
    go_enter Tryz.func237, Tryz.ntmps237
    go_wp2_with fail
    refine (c1 _).mono ?_
    rintro e w1 ⟨rfl, rfl⟩
    clear c1
    go_wp2_with fail
    go_ret
    exact ⟨rfl, grownBy_refl _ _⟩

theorem bs_neg {x : Tr} (ih : BsOk x) : BsOk (.neg x) := by
  intro w
  have hm := bs_meth x
  have he := bs_enter x
  show Calls Tryz.prog 240 #[.agg #[.iface (nodeT x) (nodeP x)]] w _
  go_enter Tryz.func240, Tryz.ntmps240
  go_wp2_with fail
  refine (ih _).mono ?_
  rintro e w1 ⟨rfl, g1⟩
  clear hm he
  go_wp2_with fail
  refine (bnot_any _ _).mono ?_
  rintro e w2 ⟨rfl, rfl⟩
  go_wp2_with fail
  go_ret
  exact ⟨rfl, grownBy_trans (World.grownBy_alloc _ _ _) g1⟩

theorem held3 {w0 w1 w2 : World} {a b c : Addr} {x y z : Value} (h : w1.cell? a = some x ∧ w1.cell? b = some y ∧ w1.cell? c = some z ∧ w0.grownBy w1 none) (hg : w1.grownBy w2 none) :
    w2.cell? a = some x ∧ w2.cell? b = some y ∧ w2.cell? c = some z ∧ w0.grownBy w2 none := ⟨cell_grown h.1 hg, cell_grown h.2.1 hg, cell_grown h.2.2.1 hg, grownBy_trans h.2.2.2 hg⟩

set_option maxHeartbeats 2000000 in
theorem bs_fol {x y : Tr} (ihx : BsOk x) (ihy : BsOk y) : BsOk (.bin .fol x y) := by
  intro w
  have hm := bs_meth x
  have hm2 := bs_meth y
  have he := bs_enter x
  have he2 := bs_enter y
  have hn := bs_nil x
  have hn2 := bs_nil y
  have cx : ∀ w : World, Calls Tryz.prog (bsFn x) #[nodeP x] w fun e w' => e = .returned (.string (lb x.bas)) ∧ w.grownBy w' none := ihx
  have cy : ∀ w : World, Calls Tryz.prog (bsFn y) #[nodeP y] w fun e w' => e = .returned (.string (lb y.bas)) ∧ w.grownBy w' none := ihy
  clear ihx ihy
  show Calls Tryz.prog 245 #[.agg #[.string ⟨#[62]⟩, .func (.func 170) #[] #[], .iface (nodeT x) (nodeP x), .iface (nodeT y) (nodeP y)]] w _
  go_enter Tryz.func245, Tryz.ntmps245
  go_wp2_with fail
  have hb : (w.alloc (.cells #[.string ⟨#[62]⟩, .func (.func 170) #[] #[], .iface (nodeT x) (nodeP x), .iface (nodeT y) (nodeP y)] 205)).drew.cell? ⟨w.heap.size, 0, none⟩ = some (.string ⟨#[62]⟩) ∧ (w.alloc (.cells #[.string ⟨#[62]⟩, .func (.func 170) #[] #[], .iface (nodeT x) (nodeP x), .iface (nodeT y) (nodeP y)] 205)).drew.cell? ⟨w.heap.size, 2, none⟩ = some (.iface (nodeT x) (nodeP x)) ∧ (w.alloc (.cells #[.string ⟨#[62]⟩, .func (.func 170) #[] #[], .iface (nodeT x) (nodeP x), .iface (nodeT y) (nodeP y)] 205)).drew.cell? ⟨w.heap.size, 3, none⟩ = some (.iface (nodeT y) (nodeP y)) ∧ w.grownBy (w.alloc (.cells #[.string ⟨#[62]⟩, .func (.func 170) #[] #[], .iface (nodeT x) (nodeP x), .iface (nodeT y) (nodeP y)] 205)).drew none :=
    ⟨World.cell?_alloc_mark w _ _ _ _, World.cell?_alloc_mark w _ _ _ _, World.cell?_alloc_mark w _ _ _ _, grownBy_drew (World.grownBy_alloc _ _ _)⟩
  go_region_held3 (fun w' => w'.cell? ⟨w.heap.size, 0, none⟩ = some (.string ⟨#[62]⟩) ∧ w'.cell? ⟨w.heap.size, 2, none⟩ = some (.iface (nodeT x) (nodeP x)) ∧ w'.cell? ⟨w.heap.size, 3, none⟩ = some (.iface (nodeT y) (nodeP y)) ∧ w.grownBy w' none)
    (first | exact hb | exact held3 (by assumption) gx | exact held3 (by assumption) gy)
    (first | ((with_reducible refine (cx _).mono ?_); rintro e w2 ⟨rfl, gx⟩) | ((with_reducible refine (cy _).mono ?_); rintro e w3 ⟨rfl, gy⟩))
  all_goals
    have hc := cell_grown (cell_grown hb.1 gx) gy
    have hgg := grownBy_trans (grownBy_trans hb.2.2.2 gx) gy
    clear hm hm2 he he2 hn hn2 cx cy hb gx gy
    go_wp2_with fail
    refine (bfol_any _ _ _).mono ?_
    rintro e w2 ⟨rfl, rfl⟩
    go_wp2_with fail
    go_ret
    exact ⟨rfl, hgg⟩

set_option maxHeartbeats 2000000 in
theorem bs_plus {x y : Tr} (ihx : BsOk x) (ihy : BsOk y) : BsOk (.bin .plus x y) := by
  intro w
  have hm := bs_meth x
  have hm2 := bs_meth y
  have he := bs_enter x
  have he2 := bs_enter y
  have hn := bs_nil x
  have hn2 := bs_nil y
  have cx : ∀ w : World, Calls Tryz.prog (bsFn x) #[nodeP x] w fun e w' => e = .returned (.string (lb x.bas)) ∧ w.grownBy w' none := ihx
  have cy : ∀ w : World, Calls Tryz.prog (bsFn y) #[nodeP y] w fun e w' => e = .returned (.string (lb y.bas)) ∧ w.grownBy w' none := ihy
  clear ihx ihy
  show Calls Tryz.prog 245 #[.agg #[.string ⟨#[43]⟩, .func (.func 171) #[] #[], .iface (nodeT x) (nodeP x), .iface (nodeT y) (nodeP y)]] w _
  go_enter Tryz.func245, Tryz.ntmps245
  go_wp2_with fail
  have hb : (w.alloc (.cells #[.string ⟨#[43]⟩, .func (.func 171) #[] #[], .iface (nodeT x) (nodeP x), .iface (nodeT y) (nodeP y)] 205)).drew.cell? ⟨w.heap.size, 0, none⟩ = some (.string ⟨#[43]⟩) ∧ (w.alloc (.cells #[.string ⟨#[43]⟩, .func (.func 171) #[] #[], .iface (nodeT x) (nodeP x), .iface (nodeT y) (nodeP y)] 205)).drew.cell? ⟨w.heap.size, 2, none⟩ = some (.iface (nodeT x) (nodeP x)) ∧ (w.alloc (.cells #[.string ⟨#[43]⟩, .func (.func 171) #[] #[], .iface (nodeT x) (nodeP x), .iface (nodeT y) (nodeP y)] 205)).drew.cell? ⟨w.heap.size, 3, none⟩ = some (.iface (nodeT y) (nodeP y)) ∧ w.grownBy (w.alloc (.cells #[.string ⟨#[43]⟩, .func (.func 171) #[] #[], .iface (nodeT x) (nodeP x), .iface (nodeT y) (nodeP y)] 205)).drew none :=
    ⟨World.cell?_alloc_mark w _ _ _ _, World.cell?_alloc_mark w _ _ _ _, World.cell?_alloc_mark w _ _ _ _, grownBy_drew (World.grownBy_alloc _ _ _)⟩
  go_region_held3 (fun w' => w'.cell? ⟨w.heap.size, 0, none⟩ = some (.string ⟨#[43]⟩) ∧ w'.cell? ⟨w.heap.size, 2, none⟩ = some (.iface (nodeT x) (nodeP x)) ∧ w'.cell? ⟨w.heap.size, 3, none⟩ = some (.iface (nodeT y) (nodeP y)) ∧ w.grownBy w' none)
    (first | exact hb | exact held3 (by assumption) gx | exact held3 (by assumption) gy)
    (first | ((with_reducible refine (cx _).mono ?_); rintro e w2 ⟨rfl, gx⟩) | ((with_reducible refine (cy _).mono ?_); rintro e w3 ⟨rfl, gy⟩))
  all_goals
    have hc := cell_grown (cell_grown hb.1 gx) gy
    have hgg := grownBy_trans (grownBy_trans hb.2.2.2 gx) gy
    clear hm hm2 he he2 hn hn2 cx cy hb gx gy
    go_wp2_with fail
    refine (bnot_any _ _).mono ?_
    rintro e w2 ⟨rfl, rfl⟩
    go_wp2_with fail
    refine (bfol_any _ _ _).mono ?_
    rintro e w2 ⟨rfl, rfl⟩
    go_wp2_with fail
    go_ret
    exact ⟨rfl, hgg⟩

set_option maxHeartbeats 2000000 in
theorem bs_times {x y : Tr} (ihx : BsOk x) (ihy : BsOk y) : BsOk (.bin .times x y) := by
  intro w
  have hm := bs_meth x
  have hm2 := bs_meth y
  have he := bs_enter x
  have he2 := bs_enter y
  have hn := bs_nil x
  have hn2 := bs_nil y
  have cx : ∀ w : World, Calls Tryz.prog (bsFn x) #[nodeP x] w fun e w' => e = .returned (.string (lb x.bas)) ∧ w.grownBy w' none := ihx
  have cy : ∀ w : World, Calls Tryz.prog (bsFn y) #[nodeP y] w fun e w' => e = .returned (.string (lb y.bas)) ∧ w.grownBy w' none := ihy
  clear ihx ihy
  show Calls Tryz.prog 245 #[.agg #[.string ⟨#[42]⟩, .func (.func 172) #[] #[], .iface (nodeT x) (nodeP x), .iface (nodeT y) (nodeP y)]] w _
  go_enter Tryz.func245, Tryz.ntmps245
  go_wp2_with fail
  have hb : (w.alloc (.cells #[.string ⟨#[42]⟩, .func (.func 172) #[] #[], .iface (nodeT x) (nodeP x), .iface (nodeT y) (nodeP y)] 205)).drew.cell? ⟨w.heap.size, 0, none⟩ = some (.string ⟨#[42]⟩) ∧ (w.alloc (.cells #[.string ⟨#[42]⟩, .func (.func 172) #[] #[], .iface (nodeT x) (nodeP x), .iface (nodeT y) (nodeP y)] 205)).drew.cell? ⟨w.heap.size, 2, none⟩ = some (.iface (nodeT x) (nodeP x)) ∧ (w.alloc (.cells #[.string ⟨#[42]⟩, .func (.func 172) #[] #[], .iface (nodeT x) (nodeP x), .iface (nodeT y) (nodeP y)] 205)).drew.cell? ⟨w.heap.size, 3, none⟩ = some (.iface (nodeT y) (nodeP y)) ∧ w.grownBy (w.alloc (.cells #[.string ⟨#[42]⟩, .func (.func 172) #[] #[], .iface (nodeT x) (nodeP x), .iface (nodeT y) (nodeP y)] 205)).drew none :=
    ⟨World.cell?_alloc_mark w _ _ _ _, World.cell?_alloc_mark w _ _ _ _, World.cell?_alloc_mark w _ _ _ _, grownBy_drew (World.grownBy_alloc _ _ _)⟩
  go_region_held3 (fun w' => w'.cell? ⟨w.heap.size, 0, none⟩ = some (.string ⟨#[42]⟩) ∧ w'.cell? ⟨w.heap.size, 2, none⟩ = some (.iface (nodeT x) (nodeP x)) ∧ w'.cell? ⟨w.heap.size, 3, none⟩ = some (.iface (nodeT y) (nodeP y)) ∧ w.grownBy w' none)
    (first | exact hb | exact held3 (by assumption) gx | exact held3 (by assumption) gy)
    (first | ((with_reducible refine (cx _).mono ?_); rintro e w2 ⟨rfl, gx⟩) | ((with_reducible refine (cy _).mono ?_); rintro e w3 ⟨rfl, gy⟩))
  all_goals
    have hc := cell_grown (cell_grown hb.1 gx) gy
    have hgg := grownBy_trans (grownBy_trans hb.2.2.2 gx) gy
    clear hm hm2 he he2 hn hn2 cx cy hb gx gy
    go_wp2_with fail
    refine (bnot_any _ _).mono ?_
    rintro e w2 ⟨rfl, rfl⟩
    go_wp2_with fail
    refine (bfol_any _ _ _).mono ?_
    rintro e w2 ⟨rfl, rfl⟩
    go_wp2_with fail
    refine (bnot_any _ _).mono ?_
    rintro e w2 ⟨rfl, rfl⟩
    go_wp2_with fail
    go_ret
    exact ⟨rfl, hgg⟩

set_option maxHeartbeats 2000000 in
theorem bs_less {x y : Tr} (ihx : BsOk x) (ihy : BsOk y) : BsOk (.bin .less x y) := by
  intro w
  have hm := bs_meth x
  have hm2 := bs_meth y
  have he := bs_enter x
  have he2 := bs_enter y
  have hn := bs_nil x
  have hn2 := bs_nil y
  have cx : ∀ w : World, Calls Tryz.prog (bsFn x) #[nodeP x] w fun e w' => e = .returned (.string (lb x.bas)) ∧ w.grownBy w' none := ihx
  have cy : ∀ w : World, Calls Tryz.prog (bsFn y) #[nodeP y] w fun e w' => e = .returned (.string (lb y.bas)) ∧ w.grownBy w' none := ihy
  clear ihx ihy
  show Calls Tryz.prog 245 #[.agg #[.string ⟨#[38]⟩, .func (.func 173) #[] #[], .iface (nodeT x) (nodeP x), .iface (nodeT y) (nodeP y)]] w _
  go_enter Tryz.func245, Tryz.ntmps245
  go_wp2_with fail
  have hb : (w.alloc (.cells #[.string ⟨#[38]⟩, .func (.func 173) #[] #[], .iface (nodeT x) (nodeP x), .iface (nodeT y) (nodeP y)] 205)).drew.cell? ⟨w.heap.size, 0, none⟩ = some (.string ⟨#[38]⟩) ∧ (w.alloc (.cells #[.string ⟨#[38]⟩, .func (.func 173) #[] #[], .iface (nodeT x) (nodeP x), .iface (nodeT y) (nodeP y)] 205)).drew.cell? ⟨w.heap.size, 2, none⟩ = some (.iface (nodeT x) (nodeP x)) ∧ (w.alloc (.cells #[.string ⟨#[38]⟩, .func (.func 173) #[] #[], .iface (nodeT x) (nodeP x), .iface (nodeT y) (nodeP y)] 205)).drew.cell? ⟨w.heap.size, 3, none⟩ = some (.iface (nodeT y) (nodeP y)) ∧ w.grownBy (w.alloc (.cells #[.string ⟨#[38]⟩, .func (.func 173) #[] #[], .iface (nodeT x) (nodeP x), .iface (nodeT y) (nodeP y)] 205)).drew none :=
    ⟨World.cell?_alloc_mark w _ _ _ _, World.cell?_alloc_mark w _ _ _ _, World.cell?_alloc_mark w _ _ _ _, grownBy_drew (World.grownBy_alloc _ _ _)⟩
  go_region_held3 (fun w' => w'.cell? ⟨w.heap.size, 0, none⟩ = some (.string ⟨#[38]⟩) ∧ w'.cell? ⟨w.heap.size, 2, none⟩ = some (.iface (nodeT x) (nodeP x)) ∧ w'.cell? ⟨w.heap.size, 3, none⟩ = some (.iface (nodeT y) (nodeP y)) ∧ w.grownBy w' none)
    (first | exact hb | exact held3 (by assumption) gx | exact held3 (by assumption) gy)
    (first | ((with_reducible refine (cx _).mono ?_); rintro e w2 ⟨rfl, gx⟩) | ((with_reducible refine (cy _).mono ?_); rintro e w3 ⟨rfl, gy⟩))
  all_goals
    have hc := cell_grown (cell_grown hb.1 gx) gy
    have hgg := grownBy_trans (grownBy_trans hb.2.2.2 gx) gy
    clear hm hm2 he he2 hn hn2 cx cy hb gx gy
    go_wp2_with fail
    refine (bfol_any _ _ _).mono ?_
    rintro e w2 ⟨rfl, rfl⟩
    go_wp2_with fail
    refine (bnot_any _ _).mono ?_
    rintro e w2 ⟨rfl, rfl⟩
    go_wp2_with fail
    refine (bfol_any _ _ _).mono ?_
    rintro e w2 ⟨rfl, rfl⟩
    go_wp2_with fail
    refine (bnot_any _ _).mono ?_
    rintro e w2 ⟨rfl, rfl⟩
    go_wp2_with fail
    go_ret
    exact ⟨rfl, hgg⟩

set_option maxHeartbeats 2000000 in
theorem bs_great {x y : Tr} (ihx : BsOk x) (ihy : BsOk y) : BsOk (.bin .great x y) := by
  intro w
  have hm := bs_meth x
  have hm2 := bs_meth y
  have he := bs_enter x
  have he2 := bs_enter y
  have hn := bs_nil x
  have hn2 := bs_nil y
  have cx : ∀ w : World, Calls Tryz.prog (bsFn x) #[nodeP x] w fun e w' => e = .returned (.string (lb x.bas)) ∧ w.grownBy w' none := ihx
  have cy : ∀ w : World, Calls Tryz.prog (bsFn y) #[nodeP y] w fun e w' => e = .returned (.string (lb y.bas)) ∧ w.grownBy w' none := ihy
  clear ihx ihy
  show Calls Tryz.prog 245 #[.agg #[.string ⟨#[124]⟩, .func (.func 174) #[] #[], .iface (nodeT x) (nodeP x), .iface (nodeT y) (nodeP y)]] w _
  go_enter Tryz.func245, Tryz.ntmps245
  go_wp2_with fail
  have hb : (w.alloc (.cells #[.string ⟨#[124]⟩, .func (.func 174) #[] #[], .iface (nodeT x) (nodeP x), .iface (nodeT y) (nodeP y)] 205)).drew.cell? ⟨w.heap.size, 0, none⟩ = some (.string ⟨#[124]⟩) ∧ (w.alloc (.cells #[.string ⟨#[124]⟩, .func (.func 174) #[] #[], .iface (nodeT x) (nodeP x), .iface (nodeT y) (nodeP y)] 205)).drew.cell? ⟨w.heap.size, 2, none⟩ = some (.iface (nodeT x) (nodeP x)) ∧ (w.alloc (.cells #[.string ⟨#[124]⟩, .func (.func 174) #[] #[], .iface (nodeT x) (nodeP x), .iface (nodeT y) (nodeP y)] 205)).drew.cell? ⟨w.heap.size, 3, none⟩ = some (.iface (nodeT y) (nodeP y)) ∧ w.grownBy (w.alloc (.cells #[.string ⟨#[124]⟩, .func (.func 174) #[] #[], .iface (nodeT x) (nodeP x), .iface (nodeT y) (nodeP y)] 205)).drew none :=
    ⟨World.cell?_alloc_mark w _ _ _ _, World.cell?_alloc_mark w _ _ _ _, World.cell?_alloc_mark w _ _ _ _, grownBy_drew (World.grownBy_alloc _ _ _)⟩
  go_region_held3 (fun w' => w'.cell? ⟨w.heap.size, 0, none⟩ = some (.string ⟨#[124]⟩) ∧ w'.cell? ⟨w.heap.size, 2, none⟩ = some (.iface (nodeT x) (nodeP x)) ∧ w'.cell? ⟨w.heap.size, 3, none⟩ = some (.iface (nodeT y) (nodeP y)) ∧ w.grownBy w' none)
    (first | exact hb | exact held3 (by assumption) gx | exact held3 (by assumption) gy)
    (first | ((with_reducible refine (cx _).mono ?_); rintro e w2 ⟨rfl, gx⟩) | ((with_reducible refine (cy _).mono ?_); rintro e w3 ⟨rfl, gy⟩))
  all_goals
    have hc := cell_grown (cell_grown hb.1 gx) gy
    have hgg := grownBy_trans (grownBy_trans hb.2.2.2 gx) gy
    clear hm hm2 he he2 hn hn2 cx cy hb gx gy
    go_wp2_with fail
    refine (bfol_any _ _ _).mono ?_
    rintro e w2 ⟨rfl, rfl⟩
    go_wp2_with fail
    refine (bfol_any _ _ _).mono ?_
    rintro e w2 ⟨rfl, rfl⟩
    go_wp2_with fail
    go_ret
    exact ⟨rfl, hgg⟩

theorem bs_all : ∀ t : Tr, BsOk t := by
  intro t
  induction t with
  | lt k => exact bs_lt k
  | tru b => exact bs_tru b
  | neg x ih => exact bs_neg ih
  | bin g x y ihx ihy =>
    cases g
    · exact bs_fol ihx ihy
    · exact bs_plus ihx ihy
    · exact bs_times ihx ihy
    · exact bs_less ihx ihy
    · exact bs_great ihx ihy

theorem basic_any (s : ByteArray) (w : World) :
    Calls Tryz.prog 137 #[.string s] w fun e w' => e = .returned (.tuple #[.string (bbT (bl s)), .bool (basB (bl s))]) ∧ w.grownBy w' none := by
  cases h : fOf (bl s) with
  | none =>
    have ht := tree_no s w h
    have e1 : bbT (bl s) = ⟨#[]⟩ := by unfold bbT; rw [basT_f h]
    rw [e1, basB_f h]
    clear h e1
    go_enter Tryz.func137, Tryz.ntmps137
    go_wp2_with fail
    refine ht.mono ?_
    rintro e w1 ⟨v, hv, rfl, g1⟩
    go_wp2_with fail
    go_ret2
    exact ⟨rfl, g1⟩
  | some t =>
    have ht := tree_yes s w h
    have ha := bs_all t
    unfold BsOk at ha
    have hm := bs_meth t
    have he := bs_enter t
    have e1 : bbT (bl s) = lb t.bas := by unfold bbT; rw [basT_t h]; rfl
    rw [e1, basB_t h]
    clear h e1
    by_cases hl : t.bas.txt.length ≤ 60
    · have e2 := lb_some hl
      rw [decide_eq_true hl]
      clear hl
      go_enter Tryz.func137, Tryz.ntmps137
      go_wp2_with fail
      refine ht.mono ?_
      rintro e w1 ⟨rfl, g1⟩
      clear ht
      go_wp2_with fail
      refine (ha _).mono ?_
      rintro e w2 ⟨rfl, g2⟩
      clear ha hm he
      go_wp2_with fail
      go_ret2
      exact ⟨rfl, grownBy_trans g1 g2⟩
    · have e2 := lb_none hl
      rw [decide_eq_false hl]
      clear hl
      go_enter Tryz.func137, Tryz.ntmps137
      go_wp2_with fail
      refine ht.mono ?_
      rintro e w1 ⟨rfl, g1⟩
      clear ht
      go_wp2_with fail
      refine (ha _).mono ?_
      rintro e w2 ⟨rfl, g2⟩
      clear ha hm he
      go_wp2_with fail
      go_ret2
      exact ⟨rfl, grownBy_trans g1 g2⟩

end Go.Proofs.YtlnffpofbfigaaaGreatDoor
