/-
  Joined out of the texts DRow, DImp: what each holds is told at its head.
-/
import Derived.Test.YtlnffpofbfigaaaGreatDoorM323050c2
import Derived.Laws.OwnMore
import Derived.OwnWalk
import Derived.Deep.RegionHeldLaw
import Derived.Test.YtlnffpofbfigaaaGreatDoorM85c18669

/-
  Rows of pairs that a call made: what lies in them, and what a cut of them leaves.
-/
namespace Go.Proofs.YtlnffpofbfigaaaGreatDoor
open Go.RowKit

/-- The cells of a row of pairs. -/
def ldC : List Ld → List Value
  | [] => []
  | x :: l => .int .i64 x.1 :: .string (bs x.2) :: ldC l
theorem ldC_len : ∀ l : List Ld, (ldC l).length = l.length * 2
  | [] => rfl
  | x :: l => by show (ldC l).length + 1 + 1 = (l.length + 1) * 2; rw [ldC_len l]; omega
theorem ldC_app : ∀ l m : List Ld, ldC (l ++ m) = ldC l ++ ldC m
  | [], m => rfl
  | x :: l, m => by show _ :: _ :: ldC (l ++ m) = _; rw [ldC_app l m]; rfl
theorem ldC_at : ∀ (l : List Ld) (i : Nat), i < l.length → (ldC l)[i * 2]? = some (.int .i64 (l.getD i nilLd).1) ∧ (ldC l)[i * 2 + 1]? = some (.string (bs (l.getD i nilLd).2))
  | [], i, h => absurd h (by simp)
  | x :: l, 0, _ => ⟨rfl, rfl⟩
  | x :: l, i + 1, h => by
    have := ldC_at l i (by simpa using h)
    rw [show (i + 1) * 2 = i * 2 + 1 + 1 by omega]
    exact this
theorem ldC_one : ∀ (l : List Ld), ∀ u ∈ ldC l, u.oneCell' = true
  | [], u, h => absurd h (by simp [ldC])
  | x :: l, u, h => by
    rcases List.mem_cons.1 h with rfl | h
    · rfl
    · rcases List.mem_cons.1 h with rfl | h
      · rfl
      · exact ldC_one l u h
theorem ldC_get {l : List Ld} {j : Nat} {u : Value} (h : (ldC l)[j]? = some u) : ∃ i, i < l.length ∧ ((j = i * 2 ∧ u = .int .i64 (l.getD i nilLd).1) ∨ (j = i * 2 + 1 ∧ u = .string (bs (l.getD i nilLd).2))) := by
  have hj := (List.getElem?_eq_some_iff.1 h).1
  rw [ldC_len] at hj
  have hi : j / 2 < l.length := by omega
  have hc := ldC_at l (j / 2) hi
  refine ⟨j / 2, hi, ?_⟩
  rcases Nat.mod_two_eq_zero_or_one j with e | e
  · have ej : j = j / 2 * 2 := by omega
    rw [ej] at h
    have := h.symm.trans hc.1
    exact .inl ⟨ej, by simpa using this⟩
  · have ej : j = j / 2 * 2 + 1 := by omega
    rw [ej] at h
    have := h.symm.trans hc.2
    exact .inr ⟨ej, by simpa using this⟩
theorem LdsAt.news {w : World} {ad : Addr} {xs : List Ld} (h : LdsAt w (some ad) xs) : ∀ j u, (ldC xs)[j]? = some u → w.cell? (ad.add j) = some u := by
  intro j u hu
  obtain ⟨i, hi, hc⟩ := ldC_get hu
  rcases h.2 with h0 | ⟨b, off, ha, _, hx⟩
  · rw [h0] at hi; simp at hi
  · cases ha
    rw [add_none]
    rcases hc with ⟨rfl, rfl⟩ | ⟨rfl, rfl⟩
    · exact (hx i hi).1
    · rw [← Nat.add_assoc]; exact (hx i hi).2

/-- A row of pairs that the call owns, from its block's first cell on. -/
def Own2 (w : World) (base : Nat) (a : Option Addr) (cap : Nat) (xs : List Ld) : Prop :=
  w.ownsRow base 29 2 (.slice a xs.length cap) xs.length (ldC xs)
theorem own2_shape {w : World} {base n : Nat} {v : Value} {zs : List Ld} (h : w.ownsRow base 29 2 v n (ldC zs)) : ∃ a cap, v = .slice a zs.length cap ∧ n = zs.length ∧ Own2 w base a cap zs := by
  have hl := h.1
  rw [ldC_len] at hl
  obtain rfl : n = zs.length := by omega
  rcases h.2 with ⟨rfl, h0⟩ | ⟨g, cap, cur, rfl, h1⟩
  · exact ⟨none, 0, by rw [h0], rfl, by unfold Own2; rw [h0]; rw [h0] at h; exact h⟩
  · exact ⟨some ⟨g, 0, none⟩, cap, rfl, rfl, h⟩
theorem Own2.nil (w : World) (base : Nat) : Own2 w base none 0 [] := World.ownsRow_nil _ _ _ _
theorem Own2.made (w : World) : Own2 (w.alloc (.cells #[] 29)) w.heap.size (some ⟨w.heap.size, 0, none⟩) 0 [] := World.ownsRow_made w #[] 0 (Nat.le_refl _) (Nat.zero_le _) rfl
theorem Own2.kept {w w' : World} {base : Nat} {a : Option Addr} {cap : Nat} {zs : List Ld} (h : Own2 w base a cap zs) (hg : w.grownBy w' none) : Own2 w' base a cap zs :=
  World.ownsRow.kept h hg (by cases (Value.slice a zs.length cap).ownBlock <;> simp)
theorem Own2.bare {w : World} {base : Nat} {a : Option Addr} {cap : Nat} {zs : List Ld} (h : Own2 w base a cap zs) : a = none → cap = 0 := by
  intro e
  subst e
  rcases h.2 with ⟨h0, _⟩ | ⟨g, c, cur, he, _⟩
  · simp only [Value.slice.injEq] at h0; exact h0.2.2
  · simp at he
theorem Own2.room {w : World} {base : Nat} {a : Option Addr} {cap : Nat} {zs : List Ld} (h : Own2 w base a cap zs) : zs.length ≤ cap ∧ cap ≤ maxLen := by
  rcases h.2 with ⟨h0, h1⟩ | ⟨g, c, cur, he, _, _, hn, hc, _⟩
  · simp only [Value.slice.injEq] at h0
    rw [h1, h0.2.2]; exact ⟨Nat.le_refl _, Nat.zero_le _⟩
  · simp only [Value.slice.injEq, true_and] at he
    rw [he.2]; exact ⟨hn, hc⟩
theorem Own2.mono {w : World} {base base' : Nat} {a : Option Addr} {cap : Nat} {zs : List Ld} (h : Own2 w base a cap zs) (hb : base' ≤ base) : Own2 w base' a cap zs := by
  refine ⟨h.1, ?_⟩
  rcases h.2 with h | ⟨g, c, cur, h1, h2, h3⟩
  · exact .inl h
  · exact .inr ⟨g, c, cur, h1, Nat.le_trans hb h2, h3⟩

/-- A row of pairs in a block that the call owns, wherever it begins. -/
def OwnL (w : World) (base : Nat) (a : Option Addr) (xs : List Ld) : Prop :=
  xs.length ≤ maxLen ∧ (xs = [] ∨ ∃ (g off : Nat) (cur : Array Value), a = some ⟨g, off, none⟩ ∧ base ≤ g ∧ w.heap[g]? = some (.cells cur 29 (0, 0)) ∧ ∀ i, i < xs.length → cur[off + i * 2]? = some (.int .i64 (xs.getD i nilLd).1) ∧ cur[off + i * 2 + 1]? = some (.string (bs (xs.getD i nilLd).2)))
theorem OwnL.nil (w : World) (base : Nat) (a : Option Addr) : OwnL w base a [] := ⟨by simp, .inl rfl⟩
theorem OwnL.at {w : World} {base : Nat} {a : Option Addr} {xs : List Ld} (h : OwnL w base a xs) : LdsAt w a xs := by
  refine ⟨h.1, ?_⟩
  rcases h.2 with h | ⟨g, off, cur, ha, hb, hg, hc⟩
  · exact .inl h
  · refine .inr ⟨g, off, ha, (Array.getElem?_eq_some_iff.1 hg).1, fun i hi => ?_⟩
    rw [cell_of_row w g _ cur _ (0, 0) hg, cell_of_row w g _ cur _ (0, 0) hg]
    exact hc i hi
theorem OwnL.past {w w' : World} {base : Nat} {a : Option Addr} {xs : List Ld} {row : Option Nat} (h : OwnL w base a xs) (hg : w.grownBy w' row) (hne : ∀ x, a = some x → some x.block ≠ row) : OwnL w' base a xs := by
  refine ⟨h.1, ?_⟩
  rcases h.2 with h | ⟨g, off, cur, ha, hb, hh, hc⟩
  · exact .inl h
  · exact .inr ⟨g, off, cur, ha, hb, (hg.block g (Array.getElem?_eq_some_iff.1 hh).1 (hne _ ha)).trans hh, hc⟩
theorem OwnL.far {w w' : World} {base b : Nat} {a : Option Addr} {xs : List Ld} (h : OwnL w base a xs) (hg : w.grownBy w' (.some b)) (hb : b < base) : OwnL w' base a xs := by
  refine ⟨h.1, ?_⟩
  rcases h.2 with h | ⟨g, off, cur, ha, hbg, hh, hc⟩
  · exact .inl h
  · exact .inr ⟨g, off, cur, ha, hbg, (hg.block g (Array.getElem?_eq_some_iff.1 hh).1 (by simp; omega)).trans hh, hc⟩
theorem OwnL.kept {w w' : World} {base : Nat} {a : Option Addr} {xs : List Ld} (h : OwnL w base a xs) (hg : w.grownBy w' none) : OwnL w' base a xs := h.past hg (by simp)
theorem OwnL.mono {w : World} {base base' : Nat} {a : Option Addr} {xs : List Ld} (h : OwnL w base a xs) (hb : base' ≤ base) : OwnL w base' a xs := by
  refine ⟨h.1, ?_⟩
  rcases h.2 with h | ⟨g, off, cur, ha, hb2, hh⟩
  · exact .inl h
  · exact .inr ⟨g, off, cur, ha, Nat.le_trans hb hb2, hh⟩
theorem Own2.curs {w : World} {base : Nat} {a : Option Addr} {cap : Nat} {zs : List Ld} (h : Own2 w base a cap zs) : zs = [] ∨ ∃ (g : Nat) (cur : Array Value), a = some ⟨g, 0, none⟩ ∧ base ≤ g ∧ w.heap[g]? = some (.cells cur 29 (0, 0)) ∧ ∀ i, i < zs.length → cur[i * 2]? = some (.int .i64 (zs.getD i nilLd).1) ∧ cur[i * 2 + 1]? = some (.string (bs (zs.getD i nilLd).2)) := by
  rcases h.2 with ⟨_, h0⟩ | ⟨g, c, cur, he, hb, hg, hnc, hcm, hcs, htake⟩
  · exact .inl (List.length_eq_zero_iff.1 h0)
  · simp only [Value.slice.injEq, true_and] at he
    obtain ⟨rfl, rfl⟩ := he
    refine .inr ⟨g, cur, rfl, hb, hg, fun i hi => ?_⟩
    have k := ldC_at zs i hi
    rw [← htake, List.getElem?_take, if_pos (by omega), List.getElem?_take, if_pos (by omega)] at k
    simpa using k
theorem Own2.l {w : World} {base : Nat} {a : Option Addr} {cap : Nat} {zs : List Ld} (h : Own2 w base a cap zs) : OwnL w base a zs := by
  refine ⟨Nat.le_trans h.room.1 h.room.2, ?_⟩
  rcases h.curs with h | ⟨g, cur, ha, hb, hg, hc⟩
  · exact .inl h
  · exact .inr ⟨g, 0, cur, ha, hb, hg, fun i hi => by rw [Nat.zero_add]; exact hc i hi⟩
theorem Own2.at {w : World} {base : Nat} {a : Option Addr} {cap : Nat} {zs : List Ld} (h : Own2 w base a cap zs) : LdsAt w a zs := h.l.at
/-- Without the last one, and without the first one. -/
theorem Own2.last {w : World} {base : Nat} {a : Option Addr} {cap : Nat} {zs : List Ld} (h : Own2 w base a cap zs) : OwnL w base a zs.dropLast := by
  have hm := h.l.1
  refine ⟨by rw [List.length_dropLast]; omega, ?_⟩
  rcases h.curs with h | ⟨g, cur, ha, hb, hg, hc⟩
  · exact .inl (by rw [h]; rfl)
  · refine .inr ⟨g, 0, cur, ha, hb, hg, fun i hi => ?_⟩
    rw [List.length_dropLast] at hi
    have e : zs.dropLast.getD i nilLd = zs.getD i nilLd := by
      rw [List.getD_eq_getElem?_getD, List.getD_eq_getElem?_getD, List.getElem?_dropLast, if_pos hi]
    rw [Nat.zero_add, e]
    exact hc i (by omega)
theorem Own2.tail {w : World} {base g cap : Nat} {zs : List Ld} (h : Own2 w base (some ⟨g, 0, none⟩) cap zs) : OwnL w base (some ⟨g, 2, none⟩) (zs.drop 1) := by
  have hm := h.l.1
  refine ⟨by rw [List.length_drop]; omega, ?_⟩
  rcases h.curs with h | ⟨g', cur, ha, hb, hg, hc⟩
  · exact .inl (by rw [h]; rfl)
  · cases ha
    refine .inr ⟨g, 2, cur, rfl, hb, hg, fun i hi => ?_⟩
    rw [List.length_drop] at hi
    have e : (zs.drop 1).getD i nilLd = zs.getD (i + 1) nilLd := by
      rw [List.getD_eq_getElem?_getD, List.getD_eq_getElem?_getD, List.getElem?_drop, Nat.add_comm]
    rw [e, show 2 + i * 2 = (i + 1) * 2 by omega]
    exact hc (i + 1) (by omega)
theorem Own2.isAt {w : World} {base : Nat} {a : Option Addr} {cap : Nat} {zs : List Ld} (h : Own2 w base a cap zs) (h1 : 1 ≤ zs.length) : ∃ g, a = some ⟨g, 0, none⟩ := by
  rcases h.curs with h | ⟨g, cur, ha, _⟩
  · rw [h] at h1; simp at h1
  · exact ⟨g, ha⟩

theorem infoLd : (Tryz.prog.info? 29).map (fun i => (i.zero, i.size, i.bytes)) = some (some (.agg #[.int .i64 0, .string ⟨#[]⟩]), 2, 24) := by kernel_rfl

/-- A desk's value, and what a call that hands a desk back leaves. -/
def dkV (d : Dk) (a : Option Addr) (cap : Nat) : Value := .agg #[.int .i64 d.1.1, .string (bs d.1.2), .slice a d.2.length cap]
def LdsPost (xs : List Ld) (w : World) (e : Ending) (w' : World) : Prop :=
  ∃ a cap, e = .returned (.slice a xs.length cap) ∧ Own2 w' w.heap.size a cap xs ∧ w.grownBy w' none
theorem grow_own2 {a b c : World} {base : Nat} {v : Value} {n : Nat} {xs : List Value} {e : TypeId} (h : a.grownBy b none) (ho : b.ownsRow base e 2 v n xs) (hb : a.heap.size ≤ base) (k : b.grownBy c v.ownBlock) : a.grownBy c none :=
  ⟨k.os.trans h.os, k.tape.trans h.tape, k.output.trans h.output, Nat.le_trans h.size k.size, fun i hi _ => by
    refine (k.block i (Nat.lt_of_lt_of_le hi h.size) fun e => ?_).trans (h.block i hi (by simp))
    have := World.ownsRow.lt ho i e.symm
    omega⟩

/-! A desk that lies in a block of its own: the block of a result. -/
theorem sizeDk : (Tryz.prog.info? 32).map (·.size) = some 3 := by kernel_rfl
theorem resDk {fn : Func} {p : Tmp} (h : fn.results = #[.cell p 32]) (tmps : Array Value) {w : World} {B : Nat} {x y z : Value} (hp : tmps.getD p undef = .pointer (some ⟨B, 0, none⟩)) (hB : CellsAt w B #[x, y, z] 32) :
    (results fn tmps).run Tryz.prog w = .ok (.agg #[x, y, z]) w := by
  have := results_cell_row h tmps w B 32 #[x, y, z] (0, 0) _ hp hB Tryz.underlying32 rfl sizeDk
  exact this
theorem resDkB {fn : Func} {p u : Tmp} (h : fn.results = #[.cell p 32, .tmp u]) (tmps : Array Value) {w : World} {B : Nat} {x y z b : Value} (hp : tmps.getD p undef = .pointer (some ⟨B, 0, none⟩)) (hu : tmps.getD u undef = b) (hB : CellsAt w B #[x, y, z] 32) :
    (results fn tmps).run Tryz.prog w = .ok (.tuple #[.agg #[x, y, z], b]) w := by
  rw [results_cell_tmp h, hp, hu]
  have := run_loadVar_row w B 32 32 #[x, y, z] (0, 0) _ hB Tryz.underlying32 rfl sizeDk
  simp only [asAddr, Sem.run_pure, Result.andThen_ok, this]
theorem CellsAt.put3 {W : World} {b : Nat} {u v t : Value} {T : TypeId} (h : CellsAt W b #[u, v, t] T) (x y z : Value) : CellsAt (((W.setCell ⟨b, 0, none⟩ x).setCell ⟨b, 1, none⟩ y).setCell ⟨b, 2, none⟩ z) b #[x, y, z] T := ((h.set 0 x).set 1 y).set 2 z
theorem CellsAt.second (w : World) (A : Obj) (vs : Array Value) (T : TypeId) : CellsAt ((w.alloc A).alloc (.cells vs T)) (w.heap.size + 1) vs T := by
  have e : (w.alloc A).heap.size = w.heap.size + 1 := by simp only [World.alloc, Array.size_push]
  rw [← e]; exact CellsAt.new _ vs T
theorem CellsAt.first (w : World) (B : Obj) (vs : Array Value) (T : TypeId) : CellsAt ((w.alloc (.cells vs T)).alloc B) w.heap.size vs T := (CellsAt.new w vs T).grown (World.grownBy_alloc _ _ none)
theorem CellsAt.third3 (w : World) (A B : Obj) (vs : Array Value) (T : TypeId) : CellsAt (((w.alloc A).alloc B).alloc (.cells vs T)) (w.heap.size + 1 + 1) vs T := by
  have e : ((w.alloc A).alloc B).heap.size = w.heap.size + 1 + 1 := by simp only [World.alloc, Array.size_push]
  rw [← e]; exact CellsAt.new _ vs T
theorem made3 (w : World) (A B C : Obj) : w.grownBy (((w.alloc A).alloc B).alloc C) none :=
  grownBy_trans (grownBy_trans (World.grownBy_alloc w A none) (World.grownBy_alloc _ B none)) (World.grownBy_alloc _ C none)
def zeroDk : Array Value := #[.int .i64 0, .string ⟨#[]⟩, .slice none 0 0]
/-- What the world behind a call holds of the first two blocks: the desk that was handed in, and the result's. -/
def Out2 (w' : World) (h : Nat) (u v x : Value) : Prop :=
  (w'.cell? ⟨h, 0, none⟩ = some u ∧ w'.cell? ⟨h, 1, none⟩ = some v ∧ w'.cell? ⟨h, 2, none⟩ = some x) ∧ (w'.cell? ⟨h + 1, 0, none⟩ = some (.int .i64 0) ∧ w'.cell? ⟨h + 1, 1, none⟩ = some (.string ⟨#[]⟩) ∧ w'.cell? ⟨h + 1, 2, none⟩ = some (.slice none 0 0)) ∧ Hid (CellsAt w' (h + 1) zeroDk 32) ∧ w'.frozen? ⟨h + 1, 0, none⟩ = false ∧ w'.frozen? ⟨h + 1, 1, none⟩ = false ∧ w'.frozen? ⟨h + 1, 2, none⟩ = false
theorem out2_of {w w' : World} {u v x : Value} {T : TypeId} (hg : ((w.alloc (.cells #[u, v, x] T)).alloc (.cells zeroDk 32)).grownBy w' none) : Out2 w' w.heap.size u v x := by
  have h1 := (CellsAt.first w (.cells zeroDk 32) #[u, v, x] T).grown hg
  have h2 := (CellsAt.second w (.cells #[u, v, x] T) zeroDk 32).grown hg
  exact ⟨h1.three, ⟨h2.cell rfl, h2.cell rfl, h2.cell rfl⟩, Lib.hid h2, h2.frozen 0, h2.frozen 1, h2.frozen 2⟩
theorem put3_grown {w w' : World} (b : Nat) (hg : w.grownBy w' none) (hb : w.heap.size ≤ b) (x y z : Value) : w.grownBy (((w'.setCell ⟨b, 0, none⟩ x).setCell ⟨b, 1, none⟩ y).setCell ⟨b, 2, none⟩ z) none :=
  grownBy_put (grownBy_put (grownBy_put hg hb 0 x) hb 1 y) hb 2 z
theorem put3_past (w : World) (b : Nat) (x y z : Value) : w.grownBy (((w.setCell ⟨b, 0, none⟩ x).setCell ⟨b, 1, none⟩ y).setCell ⟨b, 2, none⟩ z) (some b) :=
  grownBy_trans (grownBy_trans (grownBy_set w b 0 x) (grownBy_set _ b 1 y)) (grownBy_set _ b 2 z)
theorem Own2.past {w w' : World} {base b : Nat} {a : Option Addr} {cap : Nat} {zs : List Ld} (h : Own2 w base a cap zs) (hg : w.grownBy w' (some b)) (hb : b < base) : Own2 w' base a cap zs :=
  World.ownsRow.kept h hg (.inr fun e => by have := World.ownsRow.lt h _ e; omega)
theorem drew_grown {a b : World} {row : Option Nat} (h : a.drew.grownBy b row) : a.grownBy b row := ⟨h.os, h.tape, h.output, h.size, h.block⟩

/-- At a step of a drawn region: an append by its run equation. -/
theorem step_append_run {P : Program} {w : World} {ops : Array Oper} {o : Oper} {a : Act} {K : Act → World → Prop} {Q : Exit → Act → World → Prop} {E : Prop} (hgd : o.guard = none) (s x : Operand) (t : TypeId)
    (ho : o.op = .call { callee := .builtin .append, args := #[s, x], argTypes := #[t, t] }) (v u : Value) (hs : a.eval s = v) (hx : a.eval x = u) (v' : Value) (w' : World)
    (hr : (Builtin.append_ #[t, t] o.type #[v, u]).run P w = .ok v' w') (h : K (a.put o.dst v') w') :
    if Region.wanted o (yielded ops a.tmps) = true then Oper.wp P o a w K Q else E := by
  have hw : Region.wanted o (yielded ops a.tmps) = true := by simp [Region.wanted, hgd]
  rw [if_pos hw]
  unfold Oper.wp execOp
  simp only [ho, resolve, invoke, builtin, Sem.run_bind, Sem.run_pure, Result.andThen_ok, List.map_toArray, List.map_cons, List.map_nil, hs, hx, hr]
  exact h

end Go.Proofs.YtlnffpofbfigaaaGreatDoor

/-
  impl's LaidOk and DeskOk: the library looks for a pair that is none.
-/
namespace Go.Proofs.YtlnffpofbfigaaaGreatDoor
open Go.RowKit

theorem ilaid_any (x : Ld) (w : World) :
    Calls Tryz.prog 78 #[ldV x] w fun e w' => e = .returned (.bool (ldB x)) ∧ w.grownBy w' none := by
  obtain ⟨n, s⟩ := x
  have hl : ldB (n, s) = (inB n 1 6 && isF s) := rfl
  have hb : bl (bs s) = s := rfl
  unfold ldV
  go_enter Tryz.func78, Tryz.ntmps78
  cases hn : inB n 1 6
  · go_wp2_with (first | (go_at_call 107; refine (steps_any _ _).mono ?_; rintro e w' ⟨rfl, rfl⟩))
    go_ret
    rw [hl, hn]
    exact ⟨rfl, World.grownBy_alloc _ _ none⟩
  · go_wp2_with (first | (go_at_call 107; refine (steps_any _ _).mono ?_; rintro e w' ⟨rfl, rfl⟩) | (go_at_call 55; refine (form_any _ _).mono ?_; rintro e w' ⟨rfl, hg⟩))
    go_ret
    rw [hl, hn]
    exact ⟨rfl, grownBy_trans (World.grownBy_alloc _ _ none) hg⟩

theorem ilit_any (x : Ld) (w : World) :
    Calls Tryz.prog 80 #[ldV x] w fun e w' => e = .returned (.bool (!ldB x)) ∧ w.grownBy w' none := by
  have cc := ilaid_any x
  unfold ldV at *
  go_enter Tryz.func80, Tryz.ntmps80
  go_wp2_with (first | (go_at_call 78; refine (cc _).mono ?_; rintro e w' ⟨rfl, hg⟩))
  go_ret
  exact ⟨rfl, grownBy_trans (World.grownBy_alloc _ _ none) hg⟩

theorem lds_no {l : List Ld} {k : Nat} (hk : k < l.length) (h : ldB (l.getD k nilLd) = false) : l.all ldB = false := by
  rw [List.all_eq_false]
  exact ⟨_, getLd_mem hk, by rw [h]; simp⟩
theorem lds_yes {l : List Ld} (h : ∀ j, j < l.length → ldB (l.getD j nilLd) = true) : l.all ldB = true := List.all_eq_true.2 (all_take h rfl)
def DIx (xs : List Ld) (w : World) (e : Ending) (w' : World) : Prop := ∃ r : Int, e = .returned (.int .i64 r) ∧ decide (r ≥ 0) = (!xs.all ldB) ∧ w.grownBy w' none

set_option maxHeartbeats 1000000 in
theorem dix_any (a : Option Addr) (cap : Nat) (xs : List Ld) (w : World) (h : LdsAt w a xs) :
    Calls Tryz.prog 117 #[.slice a xs.length cap, .func (.func 80) #[] #[]] w (DIx xs w) := by
  have hm := h.1
  unfold maxLen at hm
  have H := Lib.hid h
  clear h
  go_enter Tryz.func117, Tryz.ntmps117
  go_wp2_with fail
  go_loopw [8] (fun i wr => DkRel xs w i wr) (fun i _ => xs.length - (intOf i).toNat)
  case atStart => exact ⟨0, by omega, rfl, fun j hj => absurd hj (by omega), grownBy_refl _ _⟩
  case round =>
    obtain ⟨k, hk, rfl, hb, hgr⟩ := hrel
    have Hb := Lib.hid hb
    have Hgr := Lib.hid hgr
    clear hb hgr
    by_cases hlt : k < xs.length
    · rcases (H.out.grown Hgr.out).2 with h0 | ⟨bx, ox, rfl, hbx, hcx⟩
      · rw [h0] at hlt; simp at hlt
      obtain ⟨hc0, hc1⟩ := hcx k hlt
      clear hcx hbx
      cases hv : ldB (xs.getD k nilLd)
      · have hz := Lib.hid (lds_no hlt hv)
        generalize xs.getD k nilLd = q at *
        have cc := ilit_any q
        unfold ldV at cc
        go_wp2_with (first | (go_at_call 80; refine (cc _).mono ?_; rintro e w' ⟨rfl, hg⟩))
        go_ret
        exact ⟨_, rfl, by rw [hz.out]; exact decide_eq_true (by omega), grownBy_trans Hgr.out hg⟩
      · have hn : Hid (∀ j, j < k + 1 → ldB (xs.getD j nilLd) = true) := fun j hj => by
          by_cases e : j = k
          · rw [e]; exact hv
          · exact Hb.out j (by omega)
        generalize xs.getD k nilLd = q at *
        have cc := ilit_any q
        unfold ldV at cc
        go_wp2_with (first | (go_at_call 80; refine (cc _).mono ?_; rintro e w' ⟨rfl, hg⟩))
        go_roundw
        case rel => exact ⟨k + 1, by omega, by go_num, hn.out, grownBy_trans Hgr.out hg⟩
        case measure => simp [intOf]; omega
    · obtain rfl : k = xs.length := by omega
      have hz := Lib.hid (lds_yes Hb.out)
      go_wp2_with fail
      go_ret
      exact ⟨_, rfl, by rw [hz.out]; rfl, Hgr.out⟩

theorem dhas_any (a : Option Addr) (cap : Nat) (xs : List Ld) (w : World) (h : LdsAt w a xs) :
    Calls Tryz.prog 79 #[.slice a xs.length cap, .func (.func 80) #[] #[]] w fun e w' => e = .returned (.bool (!xs.all ldB)) ∧ w.grownBy w' none := by
  have c1 := dix_any a cap xs w h
  clear h
  go_enter Tryz.func79, Tryz.ntmps79
  go_wp2_with fail
  refine c1.mono ?_
  rintro e w' ⟨r, rfl, hr, hg⟩
  clear c1
  go_wp2_with fail
  go_ret
  exact ⟨by rw [← hr]; rfl, hg⟩

set_option maxHeartbeats 1000000 in
theorem idesk_any (d : Dk) (a : Option Addr) (cap : Nat) (w : World) (h : LdsAt w a d.2) :
    Calls Tryz.prog 23 #[dkV d a cap] w fun e w' => e = .returned (.bool (dkB d)) ∧ w.grownBy w' none := by
  obtain ⟨⟨n, s⟩, xs⟩ := d
  have hm := h.1
  change LdsAt w a xs at h
  change xs.length ≤ maxLen at hm
  unfold maxLen at hm
  have hd : dkB ((n, s), xs) = (xs.all ldB && (ldB (n, s) && decide (xs.length ≤ 8))) := rfl
  have hg1 : w.grownBy (w.alloc (.cells #[.int .i64 n, .string (bs s), .slice a xs.length cap] 32)) none := World.grownBy_alloc _ _ none
  have hB := CellsAt.new w #[.int .i64 n, .string (bs s), .slice a xs.length cap] 32
  have H1 := Lib.hid (h.grown hg1)
  have G1 := Lib.hid hg1
  have HB := Lib.hid hB
  clear h hg1 hB
  unfold dkV
  have cc := ilaid_any (n, s)
  unfold ldV at cc
  go_enter Tryz.func23, Tryz.ntmps23
  cases hl : ldB (n, s)
  · rw [hl] at cc hd
    go_wp2_with (first | (go_at_call 78; refine (cc _).mono ?_; rintro e w' ⟨rfl, hg⟩))
    go_ret
    exact ⟨by rw [hd]; simp, grownBy_trans G1.out hg⟩
  · rw [hl] at cc hd
    by_cases h8 : xs.length ≤ 8
    · rw [decide_eq_true h8] at hd
      have ch := fun w2 (hg : (w.alloc (.cells #[.int .i64 n, .string (bs s), .slice a xs.length cap] 32)).grownBy w2 none) => dhas_any a cap xs w2 (H1.out.grown hg)
      go_wp2_with (first | (go_at_call 78; refine (cc _).mono ?_; rintro e w' ⟨rfl, hg⟩; obtain ⟨hB0, hB1, hB2⟩ := (HB.out.grown hg).three) | (go_at_call 79; refine (ch _ hg).mono ?_; rintro e w' ⟨rfl, hg'⟩; replace hg := grownBy_trans hg hg'))
      go_ret
      exact ⟨by rw [hd]; simp, grownBy_trans G1.out hg⟩
    · rw [decide_eq_false h8] at hd
      go_wp2_with (first | (go_at_call 78; refine (cc _).mono ?_; rintro e w' ⟨rfl, hg⟩; obtain ⟨hB0, hB1, hB2⟩ := (HB.out.grown hg).three))
      go_ret
      exact ⟨by rw [hd]; simp, grownBy_trans G1.out hg⟩
theorem sdesk_is (d : Dk) (a : Option Addr) (cap : Nat) (w : World) (h : LdsAt w a d.2) :
    Calls Tryz.prog 13 #[dkV d a cap] w fun e w' => e = .returned (.bool (dkB d)) ∧ w.grownBy w' none := by
  obtain ⟨⟨n, s⟩, xs⟩ := d
  exact sdesk_any n s a cap xs w h

end Go.Proofs.YtlnffpofbfigaaaGreatDoor
