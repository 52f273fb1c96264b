/-
  impl.against: the first values for which a formula is not true: a loop over what impl.settings yields, left by its label. The chain has 1 to 6 steps.
-/
import Derived.Test.YtdofeahbgodopaaASet
import Derived.WalkMore
namespace Go.Proofs.Ytdofeahbgodopaa
open Go.RowKit Go.Shelf
attribute [local go_sem] Oper.semAt_some

/-- A block of cells, as it lies. -/
def BlkAt (W : World) (b : Nat) (vs : Array Value) (T : TypeId) : Prop := W.heap[b]? = some (.cells vs T (0, 0))
theorem BlkAt.new (W : World) (vs : Array Value) (T : TypeId) : BlkAt (W.alloc (.cells vs T)) W.heap.size vs T := World.alloc_heap_new W _
theorem BlkAt.lt {W : World} {b : Nat} {vs : Array Value} {T : TypeId} (h : BlkAt W b vs T) : b < W.heap.size := (Array.getElem?_eq_some_iff.1 h).1
theorem BlkAt.kept {W W' : World} {row : Option Nat} {b : Nat} {vs : Array Value} {T : TypeId} (h : BlkAt W b vs T) (hg : W.grownBy W' row) (hne : some b ≠ row) : BlkAt W' b vs T := (hg.block b h.lt hne).trans h
theorem BlkAt.grown {W W' : World} {b : Nat} {vs : Array Value} {T : TypeId} (h : BlkAt W b vs T) (hg : W.grownBy W' none) : BlkAt W' b vs T := h.kept hg (by simp)
theorem BlkAt.alloc {W : World} {b : Nat} {vs : Array Value} {T : TypeId} (h : BlkAt W b vs T) (o : Obj) : BlkAt (W.alloc o) b vs T := h.grown (World.grownBy_alloc W o none)
theorem BlkAt.cell {W : World} {b : Nat} {vs : Array Value} {T : TypeId} (h : BlkAt W b vs T) {i : Nat} {v : Value} (hi : vs[i]? = some v) : W.cell? ⟨b, i, none⟩ = some v := by
  simp [World.cell?, show W.heap[b]? = _ from h, hi]
theorem BlkAt.frozen {W : World} {b : Nat} {vs : Array Value} {T : TypeId} (h : BlkAt W b vs T) (i : Nat) : W.frozen? ⟨b, i, none⟩ = false := by
  simp [World.frozen?, show W.heap[b]? = _ from h]
theorem BlkAt.set {W : World} {b : Nat} {vs : Array Value} {T : TypeId} (h : BlkAt W b vs T) (i : Nat) (v : Value) : BlkAt (W.setCell ⟨b, i, none⟩ v) b (vs.setIfInBounds i v) T := by
  unfold BlkAt World.setCell
  simp only [Array.getElem?_modify, if_true, show W.heap[b]? = _ from h, Option.map_some]
  rfl
theorem BlkAt.other {W : World} {b : Nat} {vs : Array Value} {T : TypeId} (h : BlkAt W b vs T) {a : Addr} (hne : a.block ≠ b) (v : Value) : BlkAt (W.setCell a v) b vs T := by
  unfold BlkAt World.setCell
  simp only [Array.getElem?_modify, if_neg hne]
  exact h
theorem blk_own {β : Type} (b : Nat) (T : TypeId) (f : β → Array Value) : Own (fun s W => BlkAt W b (f s) T) := fun s X Y row hs hg hrow =>
  hs.kept hg (fun e' => by obtain ⟨o, ho, hc⟩ := hrow b e'.symm; rw [show X.heap[b]? = _ from hs] at ho; cases ho; cases hc)
theorem Own.and {β : Type} {I I' : β → World → Prop} (h : Own I) (h' : Own I') : Own (fun s W => I s W ∧ I' s W) := fun s W W' row hs hg hr => ⟨h s W W' row hs.1 hg hr, h' s W W' row hs.2 hg hr⟩
theorem own_pure {β : Type} (p : β → Prop) : Own (fun s (_ : World) => p s) := fun _ _ _ _ hs _ _ => hs

def zero4 : Array Value := #[.int .i64 0, .int .i64 0, .int .i64 0, .int .i64 0]
def set4 (N k : Nat) : Array Value := #[.int .i64 N, .int .i64 (tA N k), .int .i64 (tB N k), .int .i64 (tC N k)]

/-- What lies before impl.against's loop, from block b on. -/
def AgBlk (b N : Nat) (t : Tr) (F : Array Value) (f : Bool) (W : World) : Prop :=
  BlkAt W b #[.int .i64 N] 3 ∧ BlkAt W (b + 1) #[.iface (nodeT t) (nodeP t)] 65 ∧ BlkAt W (b + 1 + 1) zero4 74 ∧ BlkAt W (b + 1 + 1 + 1) F 74 ∧ BlkAt W (b + 1 + 1 + 1 + 1) #[.bool f] 4 ∧ BlkAt W (b + 1 + 1 + 1 + 1 + 1) #[.int .i64 N] 3
theorem AgBlk.grown {b N : Nat} {t : Tr} {F : Array Value} {f : Bool} {W W' : World} (h : AgBlk b N t F f W) (hg : W.grownBy W' none) : AgBlk b N t F f W' :=
  ⟨h.1.grown hg, h.2.1.grown hg, h.2.2.1.grown hg, h.2.2.2.1.grown hg, h.2.2.2.2.1.grown hg, h.2.2.2.2.2.grown hg⟩
theorem AgBlk.own {β : Type} (b N : Nat) (t : Tr) (F : β → Array Value) (f : Bool) : Own (fun s W => AgBlk b N t (F s) f W) :=
  Own.and (blk_own _ _ _) (Own.and (blk_own _ _ _) (Own.and (blk_own _ _ _) (Own.and (blk_own _ _ F) (Own.and (blk_own _ _ _) (blk_own _ _ _)))))
theorem AgBlk.made (N : Nat) (t : Tr) (w : World) : AgBlk w.heap.size N t zero4 false ((((((w.alloc (.cells #[.int .i64 N] 3)).alloc (.cells #[.iface (nodeT t) (nodeP t)] 65)).alloc (.cells #[.int .i64 0, .int .i64 0, .int .i64 0, .int .i64 0] 74)).alloc (.cells #[.int .i64 0, .int .i64 0, .int .i64 0, .int .i64 0] 74)).alloc (.cells #[.bool false] 4)).alloc (.cells #[.int .i64 N] 3)) := by
  have h0 := BlkAt.new w #[.int .i64 N] 3
  generalize hw0 : w.alloc (.cells #[.int .i64 N] 3) = w0 at *
  have e0 : w0.heap.size = w.heap.size + 1 := by rw [← hw0]; simp
  have h1 := BlkAt.new w0 #[.iface (nodeT t) (nodeP t)] 65
  have k0 := h0.alloc (.cells #[.iface (nodeT t) (nodeP t)] 65)
  generalize hw1 : w0.alloc (.cells #[.iface (nodeT t) (nodeP t)] 65) = w1 at *
  have e1 : w1.heap.size = w.heap.size + 1 + 1 := by rw [← hw1]; simp [e0]
  have h2 := BlkAt.new w1 #[.int .i64 0, .int .i64 0, .int .i64 0, .int .i64 0] 74
  generalize hw2 : w1.alloc (.cells #[.int .i64 0, .int .i64 0, .int .i64 0, .int .i64 0] 74) = w2 at *
  have g2 : w1.grownBy w2 none := by rw [← hw2]; exact World.grownBy_alloc _ _ none
  have e2 : w2.heap.size = w.heap.size + 1 + 1 + 1 := by rw [← hw2]; simp [e1]
  have h3 := BlkAt.new w2 #[.int .i64 0, .int .i64 0, .int .i64 0, .int .i64 0] 74
  generalize hw3 : w2.alloc (.cells #[.int .i64 0, .int .i64 0, .int .i64 0, .int .i64 0] 74) = w3 at *
  have g3 : w2.grownBy w3 none := by rw [← hw3]; exact World.grownBy_alloc _ _ none
  have e3 : w3.heap.size = w.heap.size + 1 + 1 + 1 + 1 := by rw [← hw3]; simp [e2]
  have h4 := BlkAt.new w3 #[.bool false] 4
  generalize hw4 : w3.alloc (.cells #[.bool false] 4) = w4 at *
  have g4 : w3.grownBy w4 none := by rw [← hw4]; exact World.grownBy_alloc _ _ none
  have e4 : w4.heap.size = w.heap.size + 1 + 1 + 1 + 1 + 1 := by rw [← hw4]; simp [e3]
  have h5 := BlkAt.new w4 #[.int .i64 N] 3
  have g5 : w4.grownBy (w4.alloc (.cells #[.int .i64 N] 3)) none := World.grownBy_alloc _ _ none
  rw [e0] at h1
  rw [e1] at h2
  rw [e2] at h3
  rw [e3] at h4
  rw [e4] at h5
  have g := grownBy_trans g2 (grownBy_trans g3 (grownBy_trans g4 g5))
  exact ⟨k0.grown g, h1.grown g, h2.grown (grownBy_trans g3 (grownBy_trans g4 g5)), h3.grown (grownBy_trans g4 g5), h4.grown g5, h5⟩

/-- The first values and the sign that there are some, stored. -/
theorem AgBlk.left {b N : Nat} {t : Tr} {W : World} (h : AgBlk b N t zero4 false W) (x : Nat) :
    AgBlk b N t (set4 N x) true (((((W.setCell ⟨b + 1 + 1 + 1, 0, none⟩ (.int .i64 N)).setCell ⟨b + 1 + 1 + 1, 1, none⟩ (.int .i64 (tA N x))).setCell ⟨b + 1 + 1 + 1, 2, none⟩ (.int .i64 (tB N x))).setCell ⟨b + 1 + 1 + 1, 3, none⟩ (.int .i64 (tC N x))).setCell ⟨b + 1 + 1 + 1 + 1, 0, none⟩ (.bool true)) := by
  obtain ⟨h0, h1, h2, h3, h4, h5⟩ := h
  refine ⟨?_, ?_, ?_, ?_, ?_, ?_⟩
  · exact ((((h0.other (by simp <;> omega) _).other (by simp <;> omega) _).other (by simp <;> omega) _).other (by simp <;> omega) _).other (by simp <;> omega) _
  · exact ((((h1.other (by simp <;> omega) _).other (by simp <;> omega) _).other (by simp <;> omega) _).other (by simp <;> omega) _).other (by simp <;> omega) _
  · exact ((((h2.other (by simp <;> omega) _).other (by simp <;> omega) _).other (by simp <;> omega) _).other (by simp <;> omega) _).other (by simp <;> omega) _
  · exact ((((h3.set 0 _).set 1 _).set 2 _).set 3 _).other (by simp <;> omega) _
  · exact ((((h4.other (by simp <;> omega) _).other (by simp <;> omega) _).other (by simp <;> omega) _).other (by simp <;> omega) _).set 0 _
  · exact ((((h5.other (by simp <;> omega) _).other (by simp <;> omega) _).other (by simp <;> omega) _).other (by simp <;> omega) _).other (by simp <;> omega) _

theorem grown_of {w w' : World} (h : Below w.heap.size w w') : w.grownBy w' none := ⟨h.os, h.tape, h.output, h.size, fun k hk _ => h.block k hk⟩
/-- A value of four cells stored, an order drawn. -/
theorem BlkAt.stored {W : World} {b : Nat} {u0 u1 u2 u3 : Value} {T : TypeId} (h : BlkAt W b #[u0, u1, u2, u3] T) (v0 v1 v2 v3 : Value) :
    BlkAt ((((W.setCell ⟨b, 0, none⟩ v0).setCell ⟨b, 1, none⟩ v1).setCell ⟨b, 2, none⟩ v2).setCell ⟨b, 3, none⟩ v3).drew b #[v0, v1, v2, v3] T :=
  (((h.set 0 v0).set 1 v1).set 2 v2).set 3 v3

/-- What impl.against answers. -/
def agArr (N : Nat) (t : Tr) : Array Value := match agN N t with | some k => set4 N k | none => zero4
theorem agArr_n {N : Nat} {t : Tr} (h : agN N t = none) : agArr N t = zero4 := by unfold agArr; rw [h]
theorem agArr_s {N : Nat} {t : Tr} {k : Nat} (h : agN N t = some k) : agArr N t = set4 N k := by unfold agArr; rw [h]

set_option maxRecDepth 100000 in
set_option maxHeartbeats 4000000 in
theorem against_in (N : Nat) (hN : 1 ≤ N ∧ N ≤ 6) (t : Tr) (w : World) :
    Calls Try.prog 51 #[.int .i64 N, .iface (nodeT t) (nodeP t)] w fun e w' => e = .returned (.tuple #[.agg (agArr N t), .bool (agN N t).isSome]) ∧ w.grownBy w' none := by
  refine (callsIn_wide (n := 5)).1 ?_
  refine callsIn_of_wp_marks Try.func51 rfl trivial ?_ rfl
  simp only [Try.ntmps51, List.size_toArray, List.length_cons, List.length_nil, Nat.reduceAdd, Nat.reduceSub, Array.replicate_succ, Array.replicate_zero, List.push_toArray, List.append_toArray, List.nil_append, List.cons_append]
  gi_wp2
  refine (wpIn_wide (n := 5)).2 (wp_scope_straight ((wpIn_wide (n := 5)).1 ?_))
  generalize hQn : Exit.noGoto _ = Qn
  have hQ := Lib.hid hQn
  clear hQn
  gi_wp2
  apply wpIn_label
  gi_wp2_with (refine ⟨trivial, ?_⟩; gi_at_call 66; refine (settings_any _ _ trivial rfl _ _).mono ?_; rintro e w' ⟨rfl, rfl⟩)
  have hM := AgBlk.made N t w
  have hg : w.grownBy _ none := grownBy_trans (World.grownBy_alloc w (.cells #[.int .i64 N] 3) none) (grownBy_trans (World.grownBy_alloc _ (.cells #[.iface (nodeT t) (nodeP t)] 65) none) (grownBy_trans (World.grownBy_alloc _ (.cells #[.int .i64 0, .int .i64 0, .int .i64 0, .int .i64 0] 74) none) (grownBy_trans (World.grownBy_alloc _ (.cells #[.int .i64 0, .int .i64 0, .int .i64 0, .int .i64 0] 74) none) (grownBy_trans (World.grownBy_alloc _ (.cells #[.bool false] 4) none) (World.grownBy_alloc _ (.cells #[.int .i64 N] 3) none)))))
  obtain ⟨W0, hW0⟩ : ∃ W0, ((((((w.alloc (.cells #[.int .i64 N] 3)).alloc (.cells #[.iface (nodeT t) (nodeP t)] 65)).alloc (.cells #[.int .i64 0, .int .i64 0, .int .i64 0, .int .i64 0] 74)).alloc (.cells #[.int .i64 0, .int .i64 0, .int .i64 0, .int .i64 0] 74)).alloc (.cells #[.bool false] 4)).alloc (.cells #[.int .i64 N] 3)) = W0 := ⟨_, rfl⟩
  rw [hW0] at hM hg ⊢
  have hsz : W0.heap.size = w.heap.size + 1 + 1 + 1 + 1 + 1 + 1 := by rw [← hW0]; simp
  clear hW0
  have hB0 : Below w.heap.size w W0 := below_of hg
  clear hg
  refine wpIn_rangeFunc_ownH rfl (show 1 ≤ 5 from by decide) (gf := 71) (lb := #[.pointer (some ⟨w.heap.size + 1 + 1 + 1 + 1 + 1, 0, none⟩)]) rfl trivial (enters_of Try.func71 (by kernel_rfl) rfl)
    (settings_stops Fence.wide (5 - 1) trivial rfl (by decide) (w.heap.size + 1 + 1 + 1 + 1 + 1) N hN W0 (by omega) (hM.2.2.2.2.2.cell rfl)) kpC_t (kpC_b (by omega)) (Below.refl _ _) (fun _ => rfl)
    (fun pre W => (AgBlk w.heap.size N t zero4 false W ∧ ∀ x ∈ pre, atK N t x = N) ∧ Below w.heap.size w W)
    (fun c pre W => ((∃ q x, pre = q ++ [x] ∧ (∀ y ∈ q, atK N t y = N) ∧ atK N t x ≠ N ∧ AgBlk w.heap.size N t (set4 N x) true W) ∧ c = .exit 0) ∧ Below w.heap.size w W)
    (OwnFrom.and (Own.from (Own.and (AgBlk.own _ _ _ _ _) (own_pure _)) _) (ownFrom_below (Nat.le_refl _) (by omega)))
    (fun c => OwnFrom.and (Own.from (Own.and (fun s A B row hs hg hr => by obtain ⟨q, x, h1, h2, h3, h4⟩ := hs; exact ⟨q, x, h1, h2, h3, AgBlk.own (β := Unit) _ _ _ (fun _ => set4 N x) _ () A B row h4 hg hr⟩) (own_pure _)) _) (ownFrom_below (Nat.le_refl _) (by omega)))
    ⟨⟨hM, by simp⟩, hB0⟩
    (fun x a' W => ∃ b, w.heap.size + 1 + 1 + 1 + 1 + 1 < b ∧ BlkAt W b (set4 N x) 74 ∧ a' = { tmps := #[.int .i64 N, .iface (nodeT t) (nodeP t), .pointer (some ⟨w.heap.size, 0, none⟩), .pointer (some ⟨w.heap.size + 1, 0, none⟩), .pointer (some ⟨w.heap.size + 1 + 1, 0, none⟩), .bool false, .pointer (some ⟨w.heap.size + 1 + 1 + 1, 0, none⟩), .pointer (some ⟨w.heap.size + 1 + 1 + 1 + 1, 0, none⟩), .pointer (some ⟨b, 0, none⟩), .int .i64 N, .func (.func 71) #[] #[.pointer (some ⟨w.heap.size + 1 + 1 + 1 + 1 + 1, 0, none⟩)], .agg #[.int .i64 N, .int .i64 (tA N x), .int .i64 (tB N x), .int .i64 (tC N x)], undef, undef, undef, undef, undef, undef, undef, undef], defers := [] })
    (fun x a' => Own.from (fun s A B row hs hg hr => by obtain ⟨b, h1, h2, h3⟩ := hs; exact ⟨b, h1, blk_own (β := Unit) b _ (fun _ => set4 N x) () A B row h2 hg hr, h3⟩) _) ?assign ?body ?done ?stop
  case assign =>
    rintro l pre x W K ⟨⟨hA, hp⟩, hB⟩ hK
    simp only [encK]
    gi_wp2
    exact hK _ _ ((KeepsOthers.alloc _ _).from _) (KpC.grown hA.2.2.2.2.2.lt (World.grownBy_alloc _ _ none)) ⟨⟨hA.grown (World.grownBy_alloc _ _ none), hp⟩, hB.alloc hB.size _⟩ ⟨W.heap.size, hA.2.2.2.2.2.lt, BlkAt.new W _ _, rfl⟩
  case body =>
    rintro l pre x a' W hl ⟨r, hr⟩ ⟨⟨hA, hp⟩, hB⟩ ⟨b, hb, hbx, rfl⟩ hlt
    have n0 : W.cell? ⟨w.heap.size, 0, none⟩ = some (.int .i64 N) := hA.1.cell rfl
    have t0 : W.cell? ⟨w.heap.size + 1, 0, none⟩ = some (.iface (nodeT t) (nodeP t)) := hA.2.1.cell rfl
    have x0 : W.cell? ⟨b, 0, none⟩ = some (.int .i64 N) := hbx.cell rfl
    have x1 : W.cell? ⟨b, 1, none⟩ = some (.int .i64 (tA N x)) := hbx.cell rfl
    have x2 : W.cell? ⟨b, 2, none⟩ = some (.int .i64 (tB N x)) := hbx.cell rfl
    have x3 : W.cell? ⟨b, 3, none⟩ = some (.int .i64 (tC N x)) := hbx.cell rfl
    have cv : ∀ w : World, Calls Try.prog 58 #[.agg #[.int .i64 N, .int .i64 (tA N x), .int .i64 (tB N x), .int .i64 (tC N x)], .iface (nodeT t) (nodeP t)] w fun e w' => e = .returned (.int .i64 (atK N t x)) ∧ w.grownBy w' none := vt_all (tri_ok hN x) t
    have hd : 1 ≤ 5 - 1 - 1 := by decide
    have hmx : Try.prog.follows .mixedOrders = true := by kernel_rfl
    have b0 : W.cell? ⟨w.heap.size + 1 + 1 + 1, 0, none⟩ = some (.int .i64 0) := hA.2.2.2.1.cell rfl
    cases hv : (atK N t x != (N : Int))
    · have he : atK N t x = N := by simpa using hv
      gi_wp2
      gi_region_with_o (refine ⟨trivial, ?_⟩; gi_at_call 58; refine (CallsIn.inRound l (callsIn_wide.2 (cv _))).mono ?_; rintro e w' ⟨rfl, gx⟩; have n0' := cell_grown (w1 := W.drew) n0 gx)
      all_goals
        have g := grownBy_trans (grownBy_drew (grownBy_refl W none)) gx
        gi_wp2
        exact ⟨(KeepsOthers.of_grownBy g (by simp)).from _, KpC.grown hA.2.2.2.2.2.lt g, ⟨hA.grown g, fun y hy => (List.mem_append.1 hy).elim (hp y) (fun e => by simp at e; rw [e]; exact he)⟩, hB.trans ((below_of g).mono hB.size)⟩
    · have he : atK N t x ≠ N := by simpa using hv
      gi_wp2
      gi_region_with_o (refine ⟨trivial, ?_⟩; gi_at_call 58; refine (CallsIn.inRound l (callsIn_wide.2 (cv _))).mono ?_; rintro e w' ⟨rfl, gx⟩; have n0' := cell_grown (w1 := W.drew) n0 gx; have x0' := cell_grown (w1 := W.drew) x0 gx; have x1' := cell_grown (w1 := W.drew) x1 gx; have x2' := cell_grown (w1 := W.drew) x2 gx; have x3' := cell_grown (w1 := W.drew) x3 gx)
      all_goals
        have g := grownBy_trans (grownBy_drew (grownBy_refl W none)) gx
        have hA' := hA.grown g
        have f0 : w'.cell? ⟨w.heap.size + 1 + 1 + 1, 0, none⟩ = some (.int .i64 0) := hA'.2.2.2.1.cell rfl
        have f1 : w'.cell? ⟨w.heap.size + 1 + 1 + 1, 1, none⟩ = some (.int .i64 0) := hA'.2.2.2.1.cell rfl
        have f2 : w'.cell? ⟨w.heap.size + 1 + 1 + 1, 2, none⟩ = some (.int .i64 0) := hA'.2.2.2.1.cell rfl
        have f3 : w'.cell? ⟨w.heap.size + 1 + 1 + 1, 3, none⟩ = some (.int .i64 0) := hA'.2.2.2.1.cell rfl
        have z0 := hA'.2.2.2.1.frozen 0
        have z1 := hA'.2.2.2.1.frozen 1
        have z2 := hA'.2.2.2.1.frozen 2
        have z3 := hA'.2.2.2.1.frozen 3
        have q0 : w'.cell? ⟨w.heap.size + 1 + 1 + 1 + 1, 0, none⟩ = some (.bool false) := hA'.2.2.2.2.1.cell rfl
        have r0 := hA'.2.2.2.2.1.frozen 0
        gi_wp2
        exact ⟨((KeepsOthers.of_grownBy g (by simp)).trans (((((KeepsOthers.setCell _ _ _).trans (KeepsOthers.setCell _ _ _)).trans (KeepsOthers.setCell _ _ _)).trans (KeepsOthers.setCell _ _ _)).trans (KeepsOthers.setCell _ _ _))).from _, ⟨⟨pre, x, rfl, hp, he, hA'.left x⟩, rfl⟩,
          hB.trans (((((((below_of g).mono hB.size).setCell (by simp; omega) _).setCell (by simp; omega) _).setCell (by simp; omega) _).setCell (by simp; omega) _).setCell (by simp; omega) _)⟩
  case done =>
    rintro D ys W hD rfl ⟨⟨hA, hp⟩, hB⟩ hK
    have f0 : W.cell? ⟨w.heap.size + 1 + 1 + 1, 0, none⟩ = some (.int .i64 0) := hA.2.2.2.1.cell rfl
    have f1 : W.cell? ⟨w.heap.size + 1 + 1 + 1, 1, none⟩ = some (.int .i64 0) := hA.2.2.2.1.cell rfl
    have f2 : W.cell? ⟨w.heap.size + 1 + 1 + 1, 2, none⟩ = some (.int .i64 0) := hA.2.2.2.1.cell rfl
    have f3 : W.cell? ⟨w.heap.size + 1 + 1 + 1, 3, none⟩ = some (.int .i64 0) := hA.2.2.2.1.cell rfl
    have z0 := hA.2.2.1.frozen 0
    have z1 := hA.2.2.1.frozen 1
    have z2 := hA.2.2.1.frozen 2
    have z3 := hA.2.2.1.frozen 3
    have e0 : W.cell? ⟨w.heap.size + 1 + 1, 0, none⟩ = some (.int .i64 0) := hA.2.2.1.cell rfl
    have e1 : W.cell? ⟨w.heap.size + 1 + 1, 1, none⟩ = some (.int .i64 0) := hA.2.2.1.cell rfl
    have e2 : W.cell? ⟨w.heap.size + 1 + 1, 2, none⟩ = some (.int .i64 0) := hA.2.2.1.cell rfl
    have e3 : W.cell? ⟨w.heap.size + 1 + 1, 3, none⟩ = some (.int .i64 0) := hA.2.2.1.cell rfl
    have q0 : W.cell? ⟨w.heap.size + 1 + 1 + 1 + 1, 0, none⟩ = some (.bool false) := hA.2.2.2.2.1.cell rfl
    have hmx : Try.prog.follows .mixedOrders = true := by kernel_rfl
    have hag : agN N t = none := agN_no fun j hj => hp j (List.mem_range.2 hj)
    have hR := hA.2.2.1.stored (.int .i64 0) (.int .i64 0) (.int .i64 0) (.int .i64 0)
    have hK' := (((((KeepsOthers.setCell W ⟨w.heap.size + 1 + 1, 0, none⟩ (.int .i64 0)).trans (KeepsOthers.setCell _ ⟨w.heap.size + 1 + 1, 1, none⟩ (.int .i64 0))).trans (KeepsOthers.setCell _ ⟨w.heap.size + 1 + 1, 2, none⟩ (.int .i64 0))).trans (KeepsOthers.setCell _ ⟨w.heap.size + 1 + 1, 3, none⟩ (.int .i64 0))).trans (KeepsOthers.drew _)).same D _ hK rfl
    have hB' : Below w.heap.size w _ := ((((hB.setCell (p := ⟨w.heap.size + 1 + 1, 0, none⟩) (by simp <;> omega) (.int .i64 0)).setCell (p := ⟨w.heap.size + 1 + 1, 1, none⟩) (by simp <;> omega) (.int .i64 0)).setCell (p := ⟨w.heap.size + 1 + 1, 2, none⟩) (by simp <;> omega) (.int .i64 0)).setCell (p := ⟨w.heap.size + 1 + 1, 3, none⟩) (by simp <;> omega) (.int .i64 0)).drew
    gi_wp2
    refine (wpIn_wide (n := 5)).2 ?_
    go_region
    all_goals
      gi_wp2
      rw [← hQ.out, Exit.noGoto_ret]
      refine ⟨by simp, .inl ⟨_, _, rfl, run_takeDeferred hK', ?_⟩⟩
      have c0 := cell_kept (hR.cell (i := 0) rfl) (grownBy_putObj' _ D (.deferred none)) (fun r e => by cases e; exact ⟨_, hK', rfl⟩)
      have c1 := cell_kept (hR.cell (i := 1) rfl) (grownBy_putObj' _ D (.deferred none)) (fun r e => by cases e; exact ⟨_, hK', rfl⟩)
      have c2 := cell_kept (hR.cell (i := 2) rfl) (grownBy_putObj' _ D (.deferred none)) (fun r e => by cases e; exact ⟨_, hK', rfl⟩)
      have c3 := cell_kept (hR.cell (i := 3) rfl) (grownBy_putObj' _ D (.deferred none)) (fun r e => by cases e; exact ⟨_, hK', rfl⟩)
      refine ⟨.tuple #[.agg zero4, .bool false], ?_, by rw [agArr_n hag, hag]; rfl, grown_of (hB'.trans (belowK_b (w := w) (Nat.le_refl _) _ D _ _ (by omega) hK' rfl rfl))⟩
      simp [results, Try.f51, go_sem, c0, c1, c2, c3]
      rfl
  case stop =>
    rintro D c pre W hD ⟨k, hk, rfl⟩ ⟨⟨⟨q, x, hq, hp, hx, hA⟩, rfl⟩, hB⟩ hK
    rw [List.range_succ] at hq
    obtain ⟨rfl, hx'⟩ := List.append_inj' hq rfl
    obtain rfl : k = x := by simpa using hx'
    have hag : agN N t = some k := agN_at hk (fun j hj => hp j (List.mem_range.2 hj)) hx
    have f0 : W.cell? ⟨w.heap.size + 1 + 1 + 1, 0, none⟩ = some (.int .i64 N) := hA.2.2.2.1.cell rfl
    have f1 : W.cell? ⟨w.heap.size + 1 + 1 + 1, 1, none⟩ = some (.int .i64 (tA N k)) := hA.2.2.2.1.cell rfl
    have f2 : W.cell? ⟨w.heap.size + 1 + 1 + 1, 2, none⟩ = some (.int .i64 (tB N k)) := hA.2.2.2.1.cell rfl
    have f3 : W.cell? ⟨w.heap.size + 1 + 1 + 1, 3, none⟩ = some (.int .i64 (tC N k)) := hA.2.2.2.1.cell rfl
    have z0 := hA.2.2.1.frozen 0
    have z1 := hA.2.2.1.frozen 1
    have z2 := hA.2.2.1.frozen 2
    have z3 := hA.2.2.1.frozen 3
    have e0 : W.cell? ⟨w.heap.size + 1 + 1, 0, none⟩ = some (.int .i64 0) := hA.2.2.1.cell rfl
    have e1 : W.cell? ⟨w.heap.size + 1 + 1, 1, none⟩ = some (.int .i64 0) := hA.2.2.1.cell rfl
    have e2 : W.cell? ⟨w.heap.size + 1 + 1, 2, none⟩ = some (.int .i64 0) := hA.2.2.1.cell rfl
    have e3 : W.cell? ⟨w.heap.size + 1 + 1, 3, none⟩ = some (.int .i64 0) := hA.2.2.1.cell rfl
    have q0 : W.cell? ⟨w.heap.size + 1 + 1 + 1 + 1, 0, none⟩ = some (.bool true) := hA.2.2.2.2.1.cell rfl
    have hmx : Try.prog.follows .mixedOrders = true := by kernel_rfl
    have hR := hA.2.2.1.stored (.int .i64 N) (.int .i64 (tA N k)) (.int .i64 (tB N k)) (.int .i64 (tC N k))
    have hK' := (((((KeepsOthers.setCell W ⟨w.heap.size + 1 + 1, 0, none⟩ (.int .i64 N)).trans (KeepsOthers.setCell _ ⟨w.heap.size + 1 + 1, 1, none⟩ (.int .i64 (tA N k)))).trans (KeepsOthers.setCell _ ⟨w.heap.size + 1 + 1, 2, none⟩ (.int .i64 (tB N k)))).trans (KeepsOthers.setCell _ ⟨w.heap.size + 1 + 1, 3, none⟩ (.int .i64 (tC N k)))).trans (KeepsOthers.drew _)).same D _ hK rfl
    have hB' : Below w.heap.size w _ := ((((hB.setCell (p := ⟨w.heap.size + 1 + 1, 0, none⟩) (by simp <;> omega) (.int .i64 N)).setCell (p := ⟨w.heap.size + 1 + 1, 1, none⟩) (by simp <;> omega) (.int .i64 (tA N k))).setCell (p := ⟨w.heap.size + 1 + 1, 2, none⟩) (by simp <;> omega) (.int .i64 (tB N k))).setCell (p := ⟨w.heap.size + 1 + 1, 3, none⟩) (by simp <;> omega) (.int .i64 (tC N k))).drew
    gi_wp2
    refine (wpIn_wide (n := 5)).2 ?_
    go_region
    all_goals
      gi_wp2
      rw [← hQ.out, Exit.noGoto_ret]
      refine ⟨by simp, .inl ⟨_, _, rfl, run_takeDeferred hK', ?_⟩⟩
      have c0 := cell_kept (hR.cell (i := 0) rfl) (grownBy_putObj' _ D (.deferred none)) (fun r e => by cases e; exact ⟨_, hK', rfl⟩)
      have c1 := cell_kept (hR.cell (i := 1) rfl) (grownBy_putObj' _ D (.deferred none)) (fun r e => by cases e; exact ⟨_, hK', rfl⟩)
      have c2 := cell_kept (hR.cell (i := 2) rfl) (grownBy_putObj' _ D (.deferred none)) (fun r e => by cases e; exact ⟨_, hK', rfl⟩)
      have c3 := cell_kept (hR.cell (i := 3) rfl) (grownBy_putObj' _ D (.deferred none)) (fun r e => by cases e; exact ⟨_, hK', rfl⟩)
      refine ⟨.tuple #[.agg (set4 N k), .bool true], ?_, by rw [agArr_s hag, hag]; rfl, grown_of (hB'.trans (belowK_b (w := w) (Nat.le_refl _) _ D _ _ (by omega) hK' rfl rfl))⟩
      simp [results, Try.f51, go_sem, c0, c1, c2, c3]
      rfl

end Go.Proofs.Ytdofeahbgodopaa
