/-
  What a deed makes of a desk: impl's back and lay.
-/
import Derived.Test.YtlnffpofbfigaaaGreatDoorDDo2
import Derived.Test.YtlnffpofbfigaaaGreatDoorDAim
namespace Go.Proofs.YtlnffpofbfigaaaGreatDoor
open Go.RowKit

theorem box2 {w w' : World} {u v x : Value} {T : TypeId} (hg : ((w.alloc (.cells #[u, v, x] T)).alloc (.cells #[.int .i64 0, .string ⟨#[]⟩, .slice none 0 0] 32)).grownBy w' none) :
    (w'.cell? ⟨w.heap.size, 0, none⟩ = some u ∧ w'.cell? ⟨w.heap.size, 1, none⟩ = some v ∧ w'.cell? ⟨w.heap.size, 2, none⟩ = some x) ∧ (w'.cell? ⟨w.heap.size + 1, 0, none⟩ = some (.int .i64 0) ∧ w'.cell? ⟨w.heap.size + 1, 1, none⟩ = some (.string ⟨#[]⟩) ∧ w'.cell? ⟨w.heap.size + 1, 2, none⟩ = some (.slice none 0 0)) ∧ (w'.frozen? ⟨w.heap.size + 1, 0, none⟩ = false ∧ w'.frozen? ⟨w.heap.size + 1, 1, none⟩ = false ∧ w'.frozen? ⟨w.heap.size + 1, 2, none⟩ = false) ∧ w.heap.size < w'.heap.size ∧ w.heap.size + 1 < w'.heap.size ∧ Hid (CellsAt w' (w.heap.size + 1) #[.int .i64 0, .string ⟨#[]⟩, .slice none 0 0] 32) := by
  have h1 := (CellsAt.first w (.cells #[.int .i64 0, .string ⟨#[]⟩, .slice none 0 0] 32) #[u, v, x] T).grown hg
  have h2 := (CellsAt.second w (.cells #[u, v, x] T) #[.int .i64 0, .string ⟨#[]⟩, .slice none 0 0] 32).grown hg
  exact ⟨h1.three, h2.three, ⟨h2.frozen 0, h2.frozen 1, h2.frozen 2⟩, h1.lt, h2.lt, h2⟩
theorem back_post {w w' : World} {a : Option Addr} {xs : List Ld} {x : Ld} {cap : Nat} {b : Bool} {u v s : Value} (hg : w.grownBy w' none) (ho : OwnL w' (w.heap.size + 2) a xs) (h0 : a = none → cap = 0) (hu : u = .int .i64 x.1) (hv : v = .string (bs x.2)) (hs : s = .slice a xs.length cap) :
    DoPost ((x, xs), b) w (.returned (.tuple #[.agg #[u, v, s], .bool b])) (((w'.setCell ⟨w.heap.size + 1, 0, none⟩ u).setCell ⟨w.heap.size + 1, 1, none⟩ v).setCell ⟨w.heap.size + 1, 2, none⟩ s) := by
  subst hu hv hs
  exact ⟨a, cap, rfl, (ho.far (put3_past _ _ _ _ _) (by omega)).mono (by omega), h0, put3_grown _ hg (by omega) _ _ _⟩

theorem DoPost.drew {r : Dk × Bool} {w w' : World} {e : Ending} (h : DoPost r w e w') : DoPost r w e w'.drew := by
  obtain ⟨a, cap, he, ho, h0, hg'⟩ := h
  exact ⟨a, cap, he, ho, h0, grownBy_drew hg'⟩

set_option maxRecDepth 8000 in
set_option maxHeartbeats 1000000 in
theorem back_none (m : Int) (s : List UInt8) (a : Option Addr) (cap : Nat) (w : World) (h0 : a = none → cap = 0) :
    Calls Tryz.prog 101 #[.agg #[.int .i64 m, .string (bs s), .slice a 0 cap]] w (DoPost (((m, s), []), false) w) := by
  have g1 : w.grownBy ((w.alloc (.cells #[.int .i64 m, .string (bs s), .slice a 0 cap] 32)).alloc (.cells #[.int .i64 0, .string ⟨#[]⟩, .slice none 0 0] 32)) none := grownBy_trans (World.grownBy_alloc _ _ none) (World.grownBy_alloc _ _ none)
  have cc := copied_any ((m, s), []) a cap ((w.alloc (.cells #[.int .i64 m, .string (bs s), .slice a 0 cap] 32)).alloc (.cells #[.int .i64 0, .string ⟨#[]⟩, .slice none 0 0] 32)) (LdsAt.nil _ _) h0 (by simp)
  rw [size2] at cc
  have G1 := Lib.hid g1
  clear g1 h0
  unfold dkV at cc
  simp only [List.length_nil] at cc
  go_enter Tryz.func101, Tryz.ntmps101
  go_wp2_with (first | (go_at_call 50; refine cc.mono ?_; rintro e w2 ⟨a', cap', rfl, ho, hg⟩; obtain ⟨⟨d0, d1, d2⟩, ⟨r0, r1, r2⟩, ⟨f0, f1, f2⟩, l0, l1, HB⟩ := box2 hg))
  have F := (HB.out.put3 (.int .i64 m) (.string (bs s)) (.slice a' 0 cap')).grown (World.grownBy_alloc _ (.cells #[.int .i64 m, .string (bs s), .slice a' 0 cap'] 32) none)
  have P := (back_post (x := (m, s)) (xs := []) (b := false) (grownBy_trans G1.out hg) ho.l ho.bare rfl rfl rfl).more (World.grownBy_alloc _ (.cells #[.int .i64 m, .string (bs s), .slice a' 0 cap'] 32) none)
  exact bodyPost_ret (v := .tuple #[.agg #[.int .i64 m, .string (bs s), .slice a' 0 cap'], .bool false]) (resDkB (b := .bool false) rfl _ rfl rfl F) rfl P

set_option maxRecDepth 8000 in
set_option maxHeartbeats 1000000 in
theorem back_some (m : Int) (s : List UInt8) (p : Ld) (ys : List Ld) (a : Option Addr) (cap : Nat) (w : World) (h : LdsAt w a (ys ++ [p])) (h0 : a = none → cap = 0) (hl : ys.length + 1 ≤ 8) :
    Calls Tryz.prog 101 #[.agg #[.int .i64 m, .string (bs s), .slice a (ys.length + 1) cap]] w (DoPost ((p, ys), true) w) := by
  have hL : (ys ++ [p]).length = ys.length + 1 := by simp
  have g1 : w.grownBy ((w.alloc (.cells #[.int .i64 m, .string (bs s), .slice a (ys.length + 1) cap] 32)).alloc (.cells #[.int .i64 0, .string ⟨#[]⟩, .slice none 0 0] 32)) none := grownBy_trans (World.grownBy_alloc _ _ none) (World.grownBy_alloc _ _ none)
  have cc := copied_any ((m, s), ys ++ [p]) a cap ((w.alloc (.cells #[.int .i64 m, .string (bs s), .slice a (ys.length + 1) cap] 32)).alloc (.cells #[.int .i64 0, .string ⟨#[]⟩, .slice none 0 0] 32)) (h.grown g1) h0 (by show (ys ++ [p]).length ≤ 9; omega)
  rw [size2] at cc
  have G1 := Lib.hid g1
  clear g1 h0 h
  unfold dkV at cc
  simp only [hL] at cc
  go_enter Tryz.func101, Tryz.ntmps101
  go_wp2_with (first | (go_at_call 50; refine cc.mono ?_; rintro e w2 ⟨a', cap', rfl, ho, hg⟩; obtain ⟨⟨d0, d1, d2⟩, ⟨r0, r1, r2⟩, ⟨f0, f1, f2⟩, l0, l1, HB⟩ := box2 hg; obtain ⟨g, rfl, hgb, hgl, c0, c1, hc1, hc2⟩ := last_at ho; unfold maxLen at hc2))
  have hO := CellsAt.new w2 #[.int .i64 m, .string (bs s), .slice (some ⟨g, 0, none⟩) (ys.length + 1) cap'] 32
  have hW := World.grownBy_alloc w2 (.cells #[.int .i64 m, .string (bs s), .slice (some ⟨g, 0, none⟩) (ys.length + 1) cap'] 32) none
  generalize w2.alloc (.cells #[.int .i64 m, .string (bs s), .slice (some ⟨g, 0, none⟩) (ys.length + 1) cap'] 32) = W at *
  have HR := Lib.hid (HB.out.grown hW)
  have k1 : ∀ W', W.grownBy W' (some (w.heap.size + 1)) → (W'.cell? ⟨w2.heap.size, 0, none⟩ = some (.int .i64 m) ∧ W'.cell? ⟨w2.heap.size, 1, none⟩ = some (.string (bs s)) ∧ W'.cell? ⟨w2.heap.size, 2, none⟩ = some (.slice (some ⟨g, 0, none⟩) (ys.length + 1) cap')) ∧ W'.cell? ⟨g, ys.length * 2, none⟩ = some (.int .i64 p.1) ∧ W'.cell? ⟨g, ys.length * 2 + 1, none⟩ = some (.string (bs p.2)) := fun W' hg' =>
    ⟨(hO.kept hg' (by simp; omega)).three, hg'.cell (hW.cell c0 (by simp)) (by simp; omega), hg'.cell (hW.cell c1 (by simp)) (by simp; omega)⟩
  have K1 := Lib.hid (k1 W.drew (grownBy_drew (grownBy_refl _ _)))
  have K2 := Lib.hid (k1 _ (grownBy_drew (put3_past W (w.heap.size + 1) (.int .i64 p.1) (.string (bs p.2)) (.slice (some ⟨g, 0, none⟩) ys.length cap'))))
  have r0 := HR.out.three.1
  have r1 := HR.out.three.2.1
  have r2 := HR.out.three.2.2
  have f0 := HR.out.frozen 0
  have f1 := HR.out.frozen 1
  have f2 := HR.out.frozen 2
  have P := Lib.hid (back_post (x := p) (xs := ys) (b := true) (u := .int .i64 p.1) (v := .string (bs p.2)) (s := (.slice (some ⟨g, 0, none⟩) ys.length cap')) (grownBy_trans (grownBy_trans G1.out hg) hW) (by have := ho.last; rw [List.dropLast_concat] at this; exact this.kept hW) (by simp) rfl rfl rfl)
  have F := Lib.hid (HR.out.put3 (.int .i64 p.1) (.string (bs p.2)) (.slice (some ⟨g, 0, none⟩) ys.length cap'))
  clear k1 hO hW ho hg d0 d1 d2 c0 c1
  go_region_held_law (fun W' : World => (W'.cell? ⟨w2.heap.size, 0, none⟩ = some (.int .i64 m) ∧ W'.cell? ⟨w2.heap.size, 1, none⟩ = some (.string (bs s)) ∧ W'.cell? ⟨w2.heap.size, 2, none⟩ = some (.slice (some ⟨g, 0, none⟩) (ys.length + 1) cap')) ∧ W'.cell? ⟨g, ys.length * 2, none⟩ = some (.int .i64 p.1) ∧ W'.cell? ⟨g, ys.length * 2 + 1, none⟩ = some (.string (bs p.2))) (first | exact K1.out | exact K2.out) (fail)
  all_goals go_wp2
  all_goals exact bodyPost_ret (v := .tuple #[.agg #[.int .i64 p.1, .string (bs p.2), (.slice (some ⟨g, 0, none⟩) ys.length cap')], .bool true]) (resDkB (b := .bool true) rfl _ rfl rfl F.out) rfl P.out.drew

/-- The world ahead of lay's append: the desk, the pair, the result. -/
def LayB (W : World) (h : Nat) (m : Int) (s : List UInt8) (a : Option Addr) (L cap : Nat) (k : Int) (u : List UInt8) : Prop :=
  CellsAt W h #[.int .i64 m, .string (bs s), .slice a L cap] 32 ∧ CellsAt W (h + 1) #[.int .i64 k, .string (bs u)] 29 ∧ CellsAt W (h + 1 + 1) #[.int .i64 0, .string ⟨#[]⟩, .slice none 0 0] 32
theorem LayB.grown {W W' : World} {h : Nat} {m : Int} {s : List UInt8} {a : Option Addr} {L cap : Nat} {k : Int} {u : List UInt8} (q : LayB W h m s a L cap k u) (hg : W.grownBy W' none) : LayB W' h m s a L cap k u := ⟨q.1.grown hg, q.2.1.grown hg, q.2.2.grown hg⟩
theorem LayB.past {W W' : World} {h : Nat} {m : Int} {s : List UInt8} {a : Option Addr} {L cap : Nat} {k : Int} {u : List UInt8} {row : Option Nat} (q : LayB W h m s a L cap k u) (hg : W.grownBy W' row) (hr : ∀ b, row = some b → h + 2 < b) : LayB W' h m s a L cap k u := by
  refine ⟨q.1.kept hg fun e => ?_, q.2.1.kept hg fun e => ?_, q.2.2.kept hg fun e => ?_⟩
  all_goals
    have := hr _ e.symm
    omega
def LayF (W : World) (h : Nat) (m : Int) (s : List UInt8) (a : Option Addr) (L cap : Nat) (k : Int) (u : List UInt8) : Prop :=
  (W.cell? ⟨h, 0, none⟩ = some (.int .i64 m) ∧ W.cell? ⟨h, 1, none⟩ = some (.string (bs s)) ∧ W.cell? ⟨h, 2, none⟩ = some (.slice a L cap)) ∧ (W.cell? ⟨h + 1, 0, none⟩ = some (.int .i64 k) ∧ W.cell? ⟨h + 1, 1, none⟩ = some (.string (bs u))) ∧ (W.cell? ⟨h + 1 + 1, 0, none⟩ = some (.int .i64 0) ∧ W.cell? ⟨h + 1 + 1, 1, none⟩ = some (.string ⟨#[]⟩) ∧ W.cell? ⟨h + 1 + 1, 2, none⟩ = some (.slice none 0 0)) ∧ W.frozen? ⟨h + 1 + 1, 0, none⟩ = false ∧ W.frozen? ⟨h + 1 + 1, 1, none⟩ = false ∧ W.frozen? ⟨h + 1 + 1, 2, none⟩ = false
theorem LayB.facts {W : World} {h : Nat} {m : Int} {s : List UInt8} {a : Option Addr} {L cap : Nat} {k : Int} {u : List UInt8} (q : LayB W h m s a L cap k u) : LayF W h m s a L cap k u := ⟨q.1.three, q.2.1.pair2, q.2.2.three, q.2.2.frozen 0, q.2.2.frozen 1, q.2.2.frozen 2⟩
theorem layB_new (w : World) (m : Int) (s : List UInt8) (a : Option Addr) (L cap : Nat) (k : Int) (u : List UInt8) :
    LayB (((w.alloc (.cells #[.int .i64 m, .string (bs s), .slice a L cap] 32)).alloc (.cells #[.int .i64 k, .string (bs u)] 29)).alloc (.cells #[.int .i64 0, .string ⟨#[]⟩, .slice none 0 0] 32)) w.heap.size m s a L cap k u :=
  ⟨(CellsAt.new w _ _).grown (grownBy_trans (World.grownBy_alloc _ _ none) (World.grownBy_alloc _ _ none)), (CellsAt.second w _ _ _).grown (World.grownBy_alloc _ _ none), CellsAt.third3 w _ _ _ _⟩

set_option maxRecDepth 8000 in
set_option maxHeartbeats 1000000 in
theorem lay_same (m : Int) (s : List UInt8) (xs : List Ld) (a : Option Addr) (cap : Nat) (w : World) (h : LdsAt w a xs) (h0 : a = none → cap = 0) (hl : xs.length ≤ 8) :
    Calls Tryz.prog 102 #[.agg #[.int .i64 m, .string (bs s), .slice a xs.length cap], .agg #[.int .i64 m, .string (bs s)]] w (DoPost (((m, s), xs), false) w) := by
  have hb := layB_new w m s a xs.length cap m s
  have g3 := made3 w (.cells #[.int .i64 m, .string (bs s), .slice a xs.length cap] 32) (.cells #[.int .i64 m, .string (bs s)] 29) (.cells #[.int .i64 0, .string ⟨#[]⟩, .slice none 0 0] 32)
  have hz := size3 w (.cells #[.int .i64 m, .string (bs s), .slice a xs.length cap] 32) (.cells #[.int .i64 m, .string (bs s)] 29) (.cells #[.int .i64 0, .string ⟨#[]⟩, .slice none 0 0] 32)
  have cc := copied_any ((m, s), xs) a cap _ (h.grown g3) h0 (by show xs.length ≤ 9; omega)
  rw [hz] at cc
  have HB := Lib.hid hb
  have G3 := Lib.hid g3
  clear h hb g3 h0 hz
  unfold dkV at cc
  go_enter Tryz.func102, Tryz.ntmps102
  go_wp2_with (first | (go_at_call 50; refine cc.mono ?_; rintro e w2 ⟨a', cap', rfl, ho, hg⟩; obtain ⟨⟨d0, d1, d2⟩, ⟨e0, e1⟩, ⟨r0, r1, r2⟩, f0, f1, f2⟩ := (HB.out.grown hg).facts))
  have F := (HB.out.grown hg).2.2.put3 (.int .i64 m) (.string (bs s)) (.slice a' xs.length cap')
  have P := do_post (x := (m, s)) (xs := xs) (b := false) (grownBy_trans G3.out hg) ho.l ho.bare rfl rfl rfl
  exact bodyPost_ret (v := .tuple #[.agg #[.int .i64 m, .string (bs s), .slice a' xs.length cap'], .bool false]) (resDkB (b := .bool false) rfl _ rfl rfl F) rfl P

set_option maxRecDepth 8000 in
set_option maxHeartbeats 1000000 in
theorem lay_no (m k : Int) (s u : List UInt8) (xs : List Ld) (a : Option Addr) (cap : Nat) (w : World) (h : LdsAt w a xs) (h0 : a = none → cap = 0) (hl : xs.length ≤ 8) (hq : (k == m) = false ∨ ((bs u).toList == (bs s).toList) = false) (hk : ldB (k, u) = false) :
    Calls Tryz.prog 102 #[.agg #[.int .i64 m, .string (bs s), .slice a xs.length cap], .agg #[.int .i64 k, .string (bs u)]] w (DoPost (((m, s), xs), false) w) := by
  have hb := layB_new w m s a xs.length cap k u
  have g3 := made3 w (.cells #[.int .i64 m, .string (bs s), .slice a xs.length cap] 32) (.cells #[.int .i64 k, .string (bs u)] 29) (.cells #[.int .i64 0, .string ⟨#[]⟩, .slice none 0 0] 32)
  have hz := size3 w (.cells #[.int .i64 m, .string (bs s), .slice a xs.length cap] 32) (.cells #[.int .i64 k, .string (bs u)] 29) (.cells #[.int .i64 0, .string ⟨#[]⟩, .slice none 0 0] 32)
  have cl := ilaid_any (k, u)
  rw [hk] at cl
  unfold ldV at cl
  have cc := fun w1 (hg : World.grownBy _ w1 none) => copied_any ((m, s), xs) a cap w1 ((h.grown g3).grown hg) h0 (by show xs.length ≤ 9; omega)
  have HB := Lib.hid hb
  have G3 := Lib.hid g3
  have HZ := Lib.hid hz
  clear h hb g3 h0 hz hk
  unfold dkV at cc
  rcases hq with hq | hq
  all_goals
    go_enter Tryz.func102, Tryz.ntmps102
    go_wp2_with (first | (go_at_call 78; refine (cl _).mono ?_; rintro e w1 ⟨rfl, hg⟩; obtain ⟨⟨d0, d1, d2⟩, ⟨e0, e1⟩, ⟨r0, r1, r2⟩, f0, f1, f2⟩ := (HB.out.grown hg).facts) | (go_at_call 50; refine (cc _ hg).mono ?_; rintro e w2 ⟨a', cap', rfl, ho, hg2⟩; obtain ⟨⟨d0, d1, d2⟩, ⟨e0, e1⟩, ⟨r0, r1, r2⟩, f0, f1, f2⟩ := ((HB.out.grown hg).grown hg2).facts))
    have F := ((HB.out.grown hg).grown hg2).2.2.put3 (.int .i64 m) (.string (bs s)) (.slice a' xs.length cap')
    have P := do_post (x := (m, s)) (xs := xs) (b := false) (grownBy_trans (grownBy_trans G3.out hg) hg2) (ho.l.mono (by have := hg.size; have := HZ.out; omega)) ho.bare rfl rfl rfl
    exact bodyPost_ret (v := .tuple #[.agg #[.int .i64 m, .string (bs s), .slice a' xs.length cap'], .bool false]) (resDkB (b := .bool false) rfl _ rfl rfl F) rfl P

end Go.Proofs.YtlnffpofbfigaaaGreatDoor
