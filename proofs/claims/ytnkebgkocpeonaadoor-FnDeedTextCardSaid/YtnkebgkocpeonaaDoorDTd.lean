/-
  Cutting a text at a byte, a number's text read, the kind of deed that has a word: impl's own.
-/
import Derived.Test.YtnkebgkocpeonaaDoorDTb
import Derived.Test.YtnkebgkocpeonaaDoorSfd
import Derived.Lib.CutLaws
namespace Go.Proofs.YtnkebgkocpeonaaDoor
open Go.RowKit

/-- As long as a text may be that the library's numbers are read of. -/
def L48 : Nat := 281474976710656
theorem gr_below {w w' : World} (h : Below w.heap.size w w') : w.grownBy w' none := ⟨h.os, h.tape, h.output, h.size, fun k hk _ => h.block k hk⟩

theorem index1_any (l : List UInt8) (c : UInt8) (w : World) :
    Calls Tryd.prog 61 #[.string (bs l), .string ⟨#[c]⟩] w fun e w' => e = .returned (.int .i64 (Lib.indexB (bs l) ⟨#[c]⟩)) ∧ w' = w := by
  have h := Any.stringslite_Index_one Tryd.lays219 (bs l) c w
  rw [← Lib.index_one] at h
  exact h

def CutD (l : List UInt8) (c : UInt8) : Value := .tuple #[.string (bs (Lib.cut l [c]).1), .string (bs (Lib.cut l [c]).2.1), .bool (Lib.cut l [c]).2.2]
set_option maxHeartbeats 1600000 in
theorem cutlite_any (l : List UInt8) (c : UInt8) (w : World) (hl : l.length ≤ L48) :
    Calls Tryd.prog 53 #[.string (bs l), .string ⟨#[c]⟩] w fun e w' => e = .returned (CutD l c) ∧ w.grownBy w' none := by
  have ci := index1_any l c
  have hz := bs_size l
  unfold L48 at hl
  unfold CutD
  rcases Lib.indexB_cases (bs l) ⟨#[c]⟩ with h | ⟨i, h, hi⟩
  · obtain ⟨h1, h2, h3⟩ := Lib.cutB_miss (bs l) ⟨#[c]⟩ h
    change bs (Lib.cut l [c]).1 = _ at h1
    change bs (Lib.cut l [c]).2.1 = _ at h2
    change (Lib.cut l [c]).2.2 = _ at h3
    rw [h1, h2, h3]
    rw [h] at ci
    clear h h1 h2 h3
    go_enter Tryd.func53, Tryd.ntmps53
    go_wp2_with (first | (go_at_call 61; refine (ci _).mono ?_; rintro e w' ⟨rfl, rfl⟩))
    exact bodyPost_ret (results_tmp3 rfl _ _ _) rfl ⟨rfl, grownBy_refl _ _⟩
  · obtain ⟨h1, h2, h3⟩ := Lib.cutB_hit (bs l) ⟨#[c]⟩ i h
    change bs (Lib.cut l [c]).1 = _ at h1
    change bs (Lib.cut l [c]).2.1 = _ at h2
    change (Lib.cut l [c]).2.2 = _ at h3
    rw [h1, h2, h3]
    rw [h] at ci
    clear h h1 h2 h3
    change i + 1 ≤ (bs l).size at hi
    have ge : (i : Int) ≥ 0 := by omega
    have w1 : wrap64 ((i : Int) + 1) = (i : Int) + 1 := by unfold wrap64; omega
    have le1 : ((i : Int) ≤ ((bs l).size : Int)) := by omega
    have le2 : ((i : Int) + 1 ≤ ((bs l).size : Int)) := by omega
    have le3 : (0 : Int) ≤ (i : Int) + 1 := by omega
    have le0 : (0 : Int) ≤ (i : Int) := by omega
    clear hz hi
    generalize bs l = s at *
    go_enter Tryd.func53, Tryd.ntmps53
    go_wp2_with (first | (go_at_call 61; refine (ci _).mono ?_; rintro e w' ⟨rfl, rfl⟩))
    have mixed : Tryd.prog.follows Departure.mixedOrders = true := by kernel_rfl
    go_region_o
    all_goals go_wp2
    all_goals refine bodyPost_ret (results_tmp3 rfl _ _ _) rfl ?_
    all_goals first | exact ⟨rfl, grownBy_refl _ _⟩ | exact ⟨rfl, grownBy_drew (grownBy_refl _ _)⟩

theorem cut_any (l : List UInt8) (c : UInt8) (w : World) (hl : l.length ≤ L48) :
    Calls Tryd.prog 36 #[.string (bs l), .string ⟨#[c]⟩] w fun e w' => e = .returned (CutD l c) ∧ w.grownBy w' none := by
  have cc := fun w => cutlite_any l c w hl
  unfold CutD at cc ⊢
  go_enter Tryd.func36, Tryd.ntmps36
  go_wp2_with (first | (go_at_call 53; refine (cc _).mono ?_; rintro e w' ⟨rfl, hg⟩))
  exact bodyPost_ret (results_tmp3 rfl _ _ _) rfl ⟨rfl, hg⟩

/-- What the library hands back with an error lies as some value behind an interface. -/
def ErAt (w : World) : Prop := (∃ tp p, w.cell? ⟨3, 0, none⟩ = some (.iface tp p)) ∧ ∃ tp p, w.cell? ⟨4, 0, none⟩ = some (.iface tp p)
theorem ErAt.grown {w w' : World} (h : ErAt w) (hg : w.grownBy w' none) : ErAt w' := by
  obtain ⟨⟨a, b, h1⟩, ⟨c, d, h2⟩⟩ := h
  exact ⟨⟨a, b, (World.cell?_of_block (w := w) (hg.block _ (World.block_lt_of_cell? w _ h1) (by simp))).trans h1⟩, ⟨c, d, (World.cell?_of_block (w := w) (hg.block _ (World.block_lt_of_cell? w _ h2) (by simp))).trans h2⟩⟩

theorem atoi_ok (l : List UInt8) (hl : l.length ≤ L48) (v : Int) (h : Lib.atoiAll l = .ok v) (w : World) :
    Calls Tryd.prog 54 #[.string (bs l)] w fun e w' => e = .returned (.tuple #[.int .i64 v, .nilIface]) ∧ w.grownBy w' none := by
  have hz := bs_size l
  unfold L48 at hl
  refine Calls.mono (Any.strconv_Atoi_ok Tryd.laysC172 (bs l) (by omega) v h w) fun e w' hh => ⟨hh.1, ?_⟩
  rcases hh.2 with rfl | ⟨t, rfl⟩
  · exact grownBy_refl _ _
  · exact gr_below (Lib.bytesWorld_below _ _ _)
theorem atoi_no (l : List UInt8) (hl : l.length ≤ L48) (h : ∀ v, Lib.atoiAll l ≠ .ok v) (w : World) (hE : ErAt w) :
    Calls Tryd.prog 54 #[.string (bs l)] w fun e w' => (∃ (n : Int) (N : Nat), e = .returned (.tuple #[.int .i64 n, .iface (Tryd.laysC172_ren.t 168) (.pointer (some ⟨N, 0, none⟩))])) ∧ w.grownBy w' none := by
  have hz := bs_size l
  unfold L48 at hl
  obtain ⟨⟨a, b, h1⟩, ⟨c, d, h2⟩⟩ := hE
  cases e : Lib.atoiAll l with
  | ok v => exact absurd e (h v)
  | range =>
    refine Calls.mono (Any.strconv_Atoi_range Tryd.laysC172 (bs l) (by omega) e _ w h2 (.inr ⟨_, _, rfl⟩)) fun e w' hh => ?_
    obtain ⟨N, he, _, _, hb⟩ := hh
    exact ⟨⟨_, N, he⟩, gr_below hb⟩
  | _ =>
    refine Calls.mono (Any.strconv_Atoi_syntax Tryd.laysC172 (bs l) (by omega) e _ w h1 (.inr ⟨_, _, rfl⟩)) fun e w' hh => ?_
    obtain ⟨N, he, _, _, hb⟩ := hh
    exact ⟨⟨_, N, he⟩, gr_below hb⟩
theorem itoa2_any (k : Nat) (h : k < 100) (w : World) :
    Calls Tryd.prog 30 #[.int .i64 (k : Int)] w fun e w' => e = .returned (.string (bs (decL k))) ∧ w' = w := by
  have hh := Any.strconv_Itoa_small Tryd.lays171 k h w
  have he : Lib.decDigits k = decL k := by
    rw [← itoa_dec h]; unfold Lib.itoa; rw [if_neg (by omega), Int.toNat_natCast]
  rw [he] at hh
  exact hh

end Go.Proofs.YtnkebgkocpeonaaDoor
