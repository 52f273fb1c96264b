/-
  impl's TableAt, PutInto, StrongOf.
-/
import Derived.Test.YtbhfbpmfbknalaaTAll
namespace Go.Proofs.Ytbhfbpmfbknalaa
open Go.RowKit Go.Maps

/-- A variable that holds a table. -/
def T1 (w : World) (B : Nat) (s : Value) : Prop := w.heap[B]? = some (.cells #[s] 25)
theorem T1.new (w : World) (s : Value) : T1 (w.alloc (.cells #[s] 25)) w.heap.size s := heap_alloc_new w _
theorem T1.lt {w : World} {B : Nat} {s : Value} (h : T1 w B s) : B < w.heap.size := (Array.getElem?_eq_some_iff.1 h).1
theorem T1.grown {w w' : World} {B : Nat} {s : Value} (h : T1 w B s) (g : w.grownBy w' none) : T1 w' B s := (g.block B h.lt (by simp)).trans h
theorem T1.cell {w : World} {B : Nat} {s : Value} (h : T1 w B s) : w.cell? ⟨B, 0, none⟩ = some s := by
  unfold T1 at h
  simp [World.cell?, h]
theorem T1.free {w : World} {B : Nat} {s : Value} (h : T1 w B s) : w.frozen? ⟨B, 0, none⟩ = false := by
  unfold T1 at h
  simp [World.frozen?, h]
theorem T1.set {w : World} {B : Nat} {s v : Value} (h : T1 w B s) : T1 (w.setCell ⟨B, 0, none⟩ v) B v := one_set h
theorem resT1 {fn : Func} {p : Tmp} (h : fn.results = #[.cell p 25]) (tmps : Array Value) {w : World} {B : Nat} {s : Value} (hp : tmps.getD p undef = .pointer (some ⟨B, 0, none⟩)) (hB : T1 w B s) :
    (results fn tmps).run Try.prog w = .ok (.agg #[s]) w := resT h tmps hp hB
theorem resT2 {fn : Func} {p u : Tmp} (h : fn.results = #[.cell p 25, .tmp u]) (tmps : Array Value) {w : World} {B : Nat} {s : Value} {b : Bool} (hp : tmps.getD p undef = .pointer (some ⟨B, 0, none⟩)) (hu : tmps.getD u undef = .bool b) (hB : T1 w B s) :
    (results fn tmps).run Try.prog w = .ok (.tuple #[.agg #[s], .bool b]) w := by
  rw [results_cell_tmp h, hp, hu]
  have := run_loadVar_row w B 25 25 #[s] (0, 0) _ hB Try.underlying25 rfl sizeT
  simp only [asAddr, Sem.run_pure, Result.andThen_ok, this]
theorem fin_tab {w wb w2 : World} {B : Nat} {a : Option Addr} {cap : Nat} {zs : List Int} (v : Value) (hO : OwnI w2 wb.heap.size a cap zs) (hg : w.grownBy w2 none) (hB : B < wb.heap.size) (hB0 : w.heap.size ≤ B) :
    OwnI (w2.setCell ⟨B, 0, none⟩ v) w.heap.size a cap zs ∧ w.grownBy (w2.setCell ⟨B, 0, none⟩ v) none := by
  have hgs : w2.grownBy (w2.setCell ⟨B, 0, none⟩ v) (some B) := grownBy_set w2 B 0 v
  refine ⟨own_lower (World.ownsRow.kept hO hgs (.inr ?_)) (by omega), grow_at hg hgs hB0⟩
  intro e
  have := World.ownsRow.lt hO _ e
  omega
theorem fin_nil {w w2 : World} {B : Nat} (v : Value) (hg : w.grownBy w2 none) (hB0 : w.heap.size ≤ B) : OwnI (w2.setCell ⟨B, 0, none⟩ v) w.heap.size none 0 [] ∧ w.grownBy (w2.setCell ⟨B, 0, none⟩ v) none :=
  ⟨OwnI.nil _ _, grow_at hg (grownBy_set w2 B 0 v) hB0⟩

theorem tAt_not {l : List Int} {p q : Int} (h : triB l = false ∨ inB p 0 2 = false ∨ inB q 0 2 = false) : triAt l p q = -1 := by
  unfold triAt
  rcases h with h | h | h <;> rw [h] <;> simp
theorem tAt_yes {l : List Int} {p q : Int} (h : triB l = true) (hp : inB p 0 2 = true) (hq : inB q 0 2 = true) : triAt l p q = fT l (3 * p + q).toNat := by
  unfold triAt
  rw [h, hp, hq, fT_t h]
  simp

set_option maxHeartbeats 2000000 in
theorem itat_any (a : Option Addr) (cap : Nat) (xs : List Int) (p q : Int) (w : World) (h : IntsAt w a xs) :
    Calls Try.prog 20 #[.agg #[.slice a xs.length cap], .int .i64 p, .int .i64 q] w fun e w' => e = .returned (.int .i64 (triAt xs p q)) ∧ w.grownBy w' none := by
  have g0 : w.grownBy (w.alloc (.cells #[.slice a xs.length cap] 25)) none := World.grownBy_alloc _ _ none
  have n0 := (T1.new w (.slice a xs.length cap)).cell
  have cn := nineOf_any a cap xs _ (h.grown g0)
  have e1 := vok2 p
  have e2 := vok2 q
  have G0 := Lib.hid g0
  clear h g0
  cases ht : triB xs
  · rw [tAt_not (.inl ht)]
    go_enter Try.func20, Try.ntmps20
    go_wp2_with fail
    refine cn.mono ?_
    rintro e w2 ⟨rfl, g2⟩
    rw [ht]
    have gb : w2.grownBy (w2.alloc (.cells (c9 (fT xs)) 59)) none := World.grownBy_alloc _ _ none
    have HG := Lib.hid (grownBy_trans G0.out (grownBy_trans g2 gb))
    clear cn ht g2 gb
    unfold a9
    unfold c9 at *
    go_wp2_with fail
    go_ret
    exact ⟨rfl, HG.out⟩
  · cases hp : inB p 0 2
    · rw [tAt_not (.inr (.inl hp))]
      rw [hp] at e1
      have c1 := fun w => vok_any 2 p w
      rw [e1] at c1
      clear hp e1 e2
      go_enter Try.func20, Try.ntmps20
      go_wp2_with fail
      refine cn.mono ?_
      rintro e w2 ⟨rfl, g2⟩
      rw [ht]
      have gb : w2.grownBy (w2.alloc (.cells (c9 (fT xs)) 59)) none := World.grownBy_alloc _ _ none
      have HG := Lib.hid (grownBy_trans G0.out (grownBy_trans g2 gb))
      clear cn ht g2 gb
      unfold a9
      unfold c9 at *
      go_wp2_with fail
      refine (c1 _).mono ?_
      rintro e w3 ⟨rfl, rfl⟩
      clear c1
      go_wp2_with fail
      go_ret
      exact ⟨rfl, HG.out⟩
    · cases hq : inB q 0 2
      · rw [tAt_not (.inr (.inr hq))]
        rw [hp] at e1
        rw [hq] at e2
        have c1 := fun w => vok_any 2 p w
        have c2 := fun w => vok_any 2 q w
        rw [e1] at c1
        rw [e2] at c2
        clear hp hq e1 e2
        go_enter Try.func20, Try.ntmps20
        go_wp2_with fail
        refine cn.mono ?_
        rintro e w2 ⟨rfl, g2⟩
        rw [ht]
        have gb : w2.grownBy (w2.alloc (.cells (c9 (fT xs)) 59)) none := World.grownBy_alloc _ _ none
        have HG := Lib.hid (grownBy_trans G0.out (grownBy_trans g2 gb))
        clear cn ht g2 gb
        unfold a9
        unfold c9 at *
        go_wp2_with fail
        refine (c1 _).mono ?_
        rintro e w3 ⟨rfl, rfl⟩
        clear c1
        go_wp2_with fail
        refine (c2 _).mono ?_
        rintro e w3 ⟨rfl, rfl⟩
        clear c2
        go_wp2_with fail
        go_ret
        exact ⟨rfl, HG.out⟩
      · rw [tAt_yes ht hp hq]
        have c3 := at_int (fT xs) p q (inB_of hp) (inB_of hq)
        rw [hp] at e1
        rw [hq] at e2
        have c1 := fun w => vok_any 2 p w
        have c2 := fun w => vok_any 2 q w
        rw [e1] at c1
        rw [e2] at c2
        clear hp hq e1 e2
        generalize fT xs (3 * p + q).toNat = r at *
        go_enter Try.func20, Try.ntmps20
        go_wp2_with fail
        refine cn.mono ?_
        rintro e w2 ⟨rfl, g2⟩
        rw [ht]
        have gb : w2.grownBy (w2.alloc (.cells (c9 (fT xs)) 59)) none := World.grownBy_alloc _ _ none
        obtain ⟨a0, a1, a2, a3, a4, a5, a6, a7, a8⟩ := (Blk9.new w2 (fT xs)).cells
        have HG := Lib.hid (grownBy_trans G0.out (grownBy_trans g2 gb))
        clear cn ht g2 gb
        unfold a9
        unfold c9 at *
        go_wp2_with fail
        refine (c1 _).mono ?_
        rintro e w3 ⟨rfl, rfl⟩
        clear c1
        go_wp2_with fail
        refine (c2 _).mono ?_
        rintro e w3 ⟨rfl, rfl⟩
        clear c2
        go_wp2_with fail
        refine (c3 _).mono ?_
        rintro e w4 ⟨rfl, g4⟩
        clear c3
        go_wp2_with fail
        go_ret
        exact ⟨rfl, grownBy_trans HG.out g4⟩

end Go.Proofs.Ytbhfbpmfbknalaa
