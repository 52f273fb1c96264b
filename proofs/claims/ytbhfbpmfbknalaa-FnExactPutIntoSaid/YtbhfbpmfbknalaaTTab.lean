/-
  impl's table: a table that shares no memory with others.
-/
import Derived.Test.YtbhfbpmfbknalaaTCm2
namespace Go.Proofs.Ytbhfbpmfbknalaa
open Go.RowKit

/-- The nine values as a list of numbers. -/
def lT (f : Nat → Int) : List Int := (List.range 9).map f
theorem lT_len (f : Nat → Int) : (lT f).length = 9 := by simp [lT]
theorem lT_at (f : Nat → Int) {k : Nat} (hk : k < 9) : (lT f).getD k 0 = f k := by
  unfold lT
  rw [List.getD_eq_getElem?_getD, List.getElem?_map, List.getElem?_range hk]
  rfl
theorem lT_v9 (f : Nat → Int) : (lT f).map (Value.int .i64) = v9 f := rfl

set_option maxHeartbeats 1000000 in
theorem clone_any (f : Nat → Int) (B : Nat) (w : World) (h : Blk9 w B f) :
    Calls Try.prog 74 #[.slice (some ⟨B, 0, none⟩) 9 9] w (IntsPost (lT f) w) := by
  obtain ⟨i0, hi, hz0, hz1, hz2⟩ := info_parts infoInt
  have hq : ∀ w, (binOp .eql 23 (.slice (some ⟨B, 0, none⟩) 9 9) (.slice none 0 0)).run Try.prog w = .ok (.bool false) w := fun w => by kernel_rfl
  have hown := OwnI.made w
  have hg0 : w.grownBy (w.alloc (.cells #[] 3)) none := World.grownBy_alloc _ _ none
  have hB := (h.grown hg0).range
  have H0 := Lib.hid hg0
  have HB := Lib.hid hB
  clear h hg0 hB
  have Ho := Lib.hid hown
  clear hown
  go_enter Try.func74, Try.ntmps74
  go_wp2_with (at_builtin; refine wpList_append_own _ rfl _ _ 23 rfl w.heap.size 3 i0 (.int .i64 0) 1 8 Try.underlying23 hi hz0 hz1 hz2 rfl (by decide) _ _ _ rfl Ho.out ⟨B, 0, none⟩ 9 9 (v9 f) rfl rfl ?c1 ?c2 ?c3 ?c4 ?c5 ?_)
  case c1 =>
    intro j u hj
    rw [add_none]
    exact HB.out j u hj
  case c2 => intro u hu; exact v9_one f u hu
  case c3 => unfold maxLen; simp
  case c4 => simp
  case c5 => simp
  intro v' w3 hown' hgrow _
  have R : RowRel (lT f) w.heap.size w v' w3 := by
    have e : ([] : List Int).map (Value.int .i64) ++ v9 f = (lT f).map (Value.int .i64) := rfl
    obtain ⟨a, cap, rfl, _, hO⟩ := ownI_shape (zs := lT f) hown'
    exact ⟨a, cap, rfl, hO, grownBy_row H0.out Ho.out (Nat.le_refl _) hgrow⟩
  clear hown' hgrow
  obtain ⟨a, cap, rfl, hO, hg⟩ := R
  have HO := Lib.hid hO
  have HG := Lib.hid hg
  clear hO hg
  go_wp2
  go_ret
  exact ⟨a, cap, by rw [lT_len]; rfl, HO.out, HG.out⟩

theorem own_lower {w : World} {base base' : Nat} {a : Option Addr} {cap : Nat} {zs : List Int} (h : OwnI w base a cap zs) (hb : base' ≤ base) : OwnI w base' a cap zs :=
  ⟨h.1, h.2.imp id fun ⟨g, cap, cur, h1, h2, h3⟩ => ⟨g, cap, cur, h1, Nat.le_trans hb h2, h3⟩⟩

/-- What a function that answers with a new table leaves. -/
def TabPost (zs : List Int) (w : World) (e : Ending) (w' : World) : Prop :=
  ∃ a cap, e = .returned (.agg #[.slice a zs.length cap]) ∧ OwnI w' w.heap.size a cap zs ∧ w.grownBy w' none

theorem sizeT : (Try.prog.info? 25).map (·.size) = some 1 := by kernel_rfl
theorem resT {fn : Func} {p : Tmp} (h : fn.results = #[.cell p 25]) (tmps : Array Value) {w : World} {B : Nat} {s : Value} {t : TypeId} (hp : tmps.getD p undef = .pointer (some ⟨B, 0, none⟩)) (hB : w.heap[B]? = some (.cells #[s] t)) :
    (results fn tmps).run Try.prog w = .ok (.agg #[s]) w := results_cell_row h tmps w B t #[s] (0, 0) _ hp hB Try.underlying25 rfl sizeT
theorem one_set {w : World} {B : Nat} {s v : Value} {t : TypeId} (h : w.heap[B]? = some (.cells #[s] t)) : (w.setCell ⟨B, 0, none⟩ v).heap[B]? = some (.cells #[v] t) := by
  simp [World.setCell, Array.getElem?_modify, h]

set_option maxHeartbeats 1000000 in
theorem table_any (f : Nat → Int) (w : World) :
    Calls Try.prog 53 #[a9 f] w (TabPost (lT f) w) := by
  have g1 : w.grownBy (w.alloc (.cells (c9 f) 59)) none := World.grownBy_alloc _ _ none
  have b1 := Blk9.new w f
  have s1 : (w.alloc (.cells (c9 f) 59)).heap.size = w.heap.size + 1 := by simp
  have g2 : (w.alloc (.cells (c9 f) 59)).grownBy ((w.alloc (.cells (c9 f) 59)).alloc (.cells #[.slice none 0 0] 25)) none := World.grownBy_alloc _ _ none
  have o2 := heap_alloc_new (w.alloc (.cells (c9 f) 59)) (.cells #[.slice none 0 0] 25)
  rw [s1] at o2
  obtain ⟨wb, hwb⟩ : ∃ wb, wb = (w.alloc (.cells (c9 f) 59)).alloc (.cells #[.slice none 0 0] 25) := ⟨_, rfl⟩
  have bf := b1.grown g2
  have gg := grownBy_trans g1 g2
  rw [← hwb] at bf gg o2
  have sb : wb.heap.size = w.heap.size + 2 := by rw [hwb]; simp
  have cc := clone_any f w.heap.size wb bf
  have GG := Lib.hid gg
  have OO := Lib.hid o2
  have SB := Lib.hid sb
  clear g1 b1 s1 g2 o2 bf gg sb
  unfold a9
  unfold c9 at *
  go_enter Try.func53, Try.ntmps53
  go_wp2_with fail
  rw [← hwb]
  clear hwb
  refine cc.mono ?_
  rintro e w2 ⟨a, cap, rfl, hO, g2⟩
  have o2 : w2.heap[w.heap.size + 1]? = some (.cells #[.slice none 0 0] 25) := (g2.block _ (by have := SB.out; omega) (by simp)).trans OO.out
  have b0 : w2.cell? ⟨w.heap.size + 1, 0, none⟩ = some (.slice none 0 0) := cell_of_row w2 _ 0 _ _ _ o2
  have d0 : w2.frozen? ⟨w.heap.size + 1, 0, none⟩ = false := frozen_of_row w2 _ 0 _ _ o2
  have o3 := Lib.hid (one_set (v := .slice a 9 cap) o2)
  have hgs : w2.grownBy (w2.setCell ⟨w.heap.size + 1, 0, none⟩ (.slice a 9 cap)) (some (w.heap.size + 1)) := grownBy_set w2 (w.heap.size + 1) 0 (.slice a 9 cap)
  have gput := Lib.hid (grow_at (grownBy_trans GG.out g2) hgs (by omega))
  have hO3 : Hid (OwnI (w2.setCell ⟨w.heap.size + 1, 0, none⟩ (.slice a 9 cap)) w.heap.size a cap (lT f)) := by
    unfold Hid
    have hO2 : OwnI w2 wb.heap.size a cap (lT f) := hO
    have hk := World.ownsRow.kept hO2 hgs (.inr (by
      intro e
      have := World.ownsRow.lt hO2 _ e
      have := SB.out
      omega))
    exact own_lower hk (by have := SB.out; omega)
  clear o2 hO hgs cc
  go_wp2_with fail
  exact bodyPost_ret (resT rfl _ rfl o3.out) rfl ⟨a, cap, by rw [lT_len], hO3.out, gput.out⟩

end Go.Proofs.Ytbhfbpmfbknalaa
