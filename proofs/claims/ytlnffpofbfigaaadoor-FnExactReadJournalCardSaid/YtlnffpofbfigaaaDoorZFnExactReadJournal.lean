/-
  Joined out of the texts DTd, DTe, DX6, DX7, DX4, DDraw, DX8, DRowD, DDkA, DTf, DTg, DTh, DXD, DTp, DDs, DTs, DTt, DTj, DTk, DTl, DTm, DTu, DTw, DXM, DTx, DLd: what each holds is told at its head.
-/
import Derived.Test.YtlnffpofbfigaaaDoorDTb
import Derived.Test.YtlnffpofbfigaaaDoorSfd
import Derived.Lib.CutLaws
import Derived.Test.YtlnffpofbfigaaaDoorDX5
import Derived.Test.YtlnffpofbfigaaaDoorDX3
import Derived.Test.YtlnffpofbfigaaaDoorDDo2
import Derived.Test.YtlnffpofbfigaaaDoorADraw
import Derived.Test.YtlnffpofbfigaaaDoorDWa
import Derived.Deep.DeepCutAuto
import Derived.Deep.RegionWith
import Derived.Deep.AppendLies
import Derived.Test.YtlnffpofbfigaaaDoorDTc
import Derived.Maps.AppendAt
import Derived.Test.YtlnffpofbfigaaaDoorDraw4
import Derived.Test.YtlnffpofbfigaaaDoorFSpec
import Derived.Laws.AppendOwn
import Derived.Test.YtlnffpofbfigaaaDoorDeskR
import Derived.Test.YtlnffpofbfigaaaDoorDCl
import Derived.Test.YtlnffpofbfigaaaDoorRows
import Derived.ProofKit
import Derived.OpenShut
import Derived.OpenVars
import Derived.LaidMore
import Derived.Stop.Joined
import Derived.Stop.LaidErr

/-
  Cutting a text at a byte, a number's text read, the kind of deed that has a word: impl's own.
-/
namespace Go.Proofs.YtlnffpofbfigaaaDoor
open Go.RowKit

/-- As long as a text may be that the library's numbers are read of. -/
def L48 : Nat := 281474976710656
theorem gr_below {w w' : World} (h : Below w.heap.size w w') : w.grownBy w' none := ⟨h.os, h.tape, h.output, h.size, fun k hk _ => h.block k hk⟩

theorem index1_any (l : List UInt8) (c : UInt8) (w : World) :
    Calls Tryd.prog 24 #[.string (bs l), .string ⟨#[c]⟩] w fun e w' => e = .returned (.int .i64 (Lib.indexB (bs l) ⟨#[c]⟩)) ∧ w' = w := by
  have h := Any.stringslite_Index_one Tryd.lays219 (bs l) c w
  rw [← Lib.index_one] at h
  exact h

def CutD (l : List UInt8) (c : UInt8) : Value := .tuple #[.string (bs (Lib.cut l [c]).1), .string (bs (Lib.cut l [c]).2.1), .bool (Lib.cut l [c]).2.2]
set_option maxHeartbeats 1600000 in
theorem cutlite_any (l : List UInt8) (c : UInt8) (w : World) (hl : l.length ≤ L48) :
    Calls Tryd.prog 17 #[.string (bs l), .string ⟨#[c]⟩] w fun e w' => e = .returned (CutD l c) ∧ w.grownBy w' none := by
  have ci := index1_any l c
  have hz := bs_size l
  unfold L48 at hl
  unfold CutD
  rcases Lib.indexB_cases (bs l) ⟨#[c]⟩ with h | ⟨i, h, hi⟩
  · obtain ⟨h1, h2, h3⟩ := Lib.cutB_miss (bs l) ⟨#[c]⟩ h
    change bs (Lib.cut l [c]).1 = _ at h1
    change bs (Lib.cut l [c]).2.1 = _ at h2
    change (Lib.cut l [c]).2.2 = _ at h3
    rw [h1, h2, h3]
    rw [h] at ci
    clear h h1 h2 h3
    go_enter Tryd.func17, Tryd.ntmps17
    go_wp2_with (first | (go_at_call 24; refine (ci _).mono ?_; rintro e w' ⟨rfl, rfl⟩))
    exact bodyPost_ret (results_tmp3 rfl _ _ _) rfl ⟨rfl, grownBy_refl _ _⟩
  · obtain ⟨h1, h2, h3⟩ := Lib.cutB_hit (bs l) ⟨#[c]⟩ i h
    change bs (Lib.cut l [c]).1 = _ at h1
    change bs (Lib.cut l [c]).2.1 = _ at h2
    change (Lib.cut l [c]).2.2 = _ at h3
    rw [h1, h2, h3]
    rw [h] at ci
    clear h h1 h2 h3
    change i + 1 ≤ (bs l).size at hi
    have ge : (i : Int) ≥ 0 := by omega
    have w1 : wrap64 ((i : Int) + 1) = (i : Int) + 1 := by unfold wrap64; omega
    have le1 : ((i : Int) ≤ ((bs l).size : Int)) := by omega
    have le2 : ((i : Int) + 1 ≤ ((bs l).size : Int)) := by omega
    have le3 : (0 : Int) ≤ (i : Int) + 1 := by omega
    have le0 : (0 : Int) ≤ (i : Int) := by omega
    clear hz hi
    generalize bs l = s at *
    go_enter Tryd.func17, Tryd.ntmps17
    go_wp2_with (first | (go_at_call 24; refine (ci _).mono ?_; rintro e w' ⟨rfl, rfl⟩))
    have mixed : Tryd.prog.follows Departure.mixedOrders = true := by kernel_rfl
    go_region_o
    all_goals go_wp2
    all_goals refine bodyPost_ret (results_tmp3 rfl _ _ _) rfl ?_
    all_goals first | exact ⟨rfl, grownBy_refl _ _⟩ | exact ⟨rfl, grownBy_drew (grownBy_refl _ _)⟩

theorem cut_any (l : List UInt8) (c : UInt8) (w : World) (hl : l.length ≤ L48) :
    Calls Tryd.prog 10 #[.string (bs l), .string ⟨#[c]⟩] w fun e w' => e = .returned (CutD l c) ∧ w.grownBy w' none := by
  have cc := fun w => cutlite_any l c w hl
  unfold CutD at cc ⊢
  go_enter Tryd.func10, Tryd.ntmps10
  go_wp2_with (first | (go_at_call 17; refine (cc _).mono ?_; rintro e w' ⟨rfl, hg⟩))
  exact bodyPost_ret (results_tmp3 rfl _ _ _) rfl ⟨rfl, hg⟩

/-- What the library hands back with an error lies as some value behind an interface. -/
def ErAt (w : World) : Prop := (∃ tp p, w.cell? ⟨2, 0, none⟩ = some (.iface tp p)) ∧ ∃ tp p, w.cell? ⟨3, 0, none⟩ = some (.iface tp p)
theorem ErAt.grown {w w' : World} (h : ErAt w) (hg : w.grownBy w' none) : ErAt w' := by
  obtain ⟨⟨a, b, h1⟩, ⟨c, d, h2⟩⟩ := h
  exact ⟨⟨a, b, (World.cell?_of_block (w := w) (hg.block _ (World.block_lt_of_cell? w _ h1) (by simp))).trans h1⟩, ⟨c, d, (World.cell?_of_block (w := w) (hg.block _ (World.block_lt_of_cell? w _ h2) (by simp))).trans h2⟩⟩

theorem atoi_ok (l : List UInt8) (hl : l.length ≤ L48) (v : Int) (h : Lib.atoiAll l = .ok v) (w : World) :
    Calls Tryd.prog 25 #[.string (bs l)] w fun e w' => e = .returned (.tuple #[.int .i64 v, .nilIface]) ∧ w.grownBy w' none := by
  have hz := bs_size l
  unfold L48 at hl
  refine Calls.mono (Any.strconv_Atoi_ok Tryd.laysC172 (bs l) (by omega) v h w) fun e w' hh => ⟨hh.1, ?_⟩
  rcases hh.2 with rfl | ⟨t, rfl⟩
  · exact grownBy_refl _ _
  · exact gr_below (Lib.bytesWorld_below _ _ _)
theorem atoi_no (l : List UInt8) (hl : l.length ≤ L48) (h : ∀ v, Lib.atoiAll l ≠ .ok v) (w : World) (hE : ErAt w) :
    Calls Tryd.prog 25 #[.string (bs l)] w fun e w' => (∃ (n : Int) (N : Nat), e = .returned (.tuple #[.int .i64 n, .iface (Tryd.laysC172_ren.t 168) (.pointer (some ⟨N, 0, none⟩))])) ∧ w.grownBy w' none := by
  have hz := bs_size l
  unfold L48 at hl
  obtain ⟨⟨a, b, h1⟩, ⟨c, d, h2⟩⟩ := hE
  cases e : Lib.atoiAll l with
  | ok v => exact absurd e (h v)
  | range =>
    refine Calls.mono (Any.strconv_Atoi_range Tryd.laysC172 (bs l) (by omega) e _ w h2 (.inr ⟨_, _, rfl⟩)) fun e w' hh => ?_
    obtain ⟨N, he, _, _, hb⟩ := hh
    exact ⟨⟨_, N, he⟩, gr_below hb⟩
  | _ =>
    refine Calls.mono (Any.strconv_Atoi_syntax Tryd.laysC172 (bs l) (by omega) e _ w h1 (.inr ⟨_, _, rfl⟩)) fun e w' hh => ?_
    obtain ⟨N, he, _, _, hb⟩ := hh
    exact ⟨⟨_, N, he⟩, gr_below hb⟩
theorem itoa2_any (k : Nat) (h : k < 100) (w : World) :
    Calls Tryd.prog 26 #[.int .i64 (k : Int)] w fun e w' => e = .returned (.string (bs (decL k))) ∧ w' = w := by
  have hh := Any.strconv_Itoa_small Tryd.lays171 k h w
  have he : Lib.decDigits k = decL k := by
    rw [← itoa_dec h]; unfold Lib.itoa; rw [if_neg (by omega), Int.toNat_natCast]
  rw [he] at hh
  exact hh

end Go.Proofs.YtlnffpofbfigaaaDoor

/-
  The kind of deed that has a word; a number's text read.
-/
namespace Go.Proofs.YtlnffpofbfigaaaDoor
open Go.RowKit

theorem toL_bs (l : List UInt8) : (bs l).toList = l := by rw [ByteArray.toList_eq]; rfl
theorem bs_ne {l m : List UInt8} (h : m ≠ l) : (m == (bs l).toList) = false := by rw [toL_bs]; exact beq_false_of_ne h
theorem kind_at {l : List UInt8} {k : Nat} (hk : k < 7) (hall : ∀ j, j < k → wordsL.getD j [] ≠ l) (h : wordsL.getD k [] = l) : Ending.returned (.int .i64 (k : Int)) = .returned (.int .i64 (kindI l)) := by rw [kindI_at hall hk h]
theorem bs_inj {l m : List UInt8} (h : bs l = bs m) : l = m := by have := congrArg bl h; rwa [bl_bs, bl_bs] at this
theorem word_at {k : Nat} (hk : k < 7) : ∀ w, (Instr.index 43 (.agg #[.string ⟨#[99, 104, 97, 105, 110]⟩, .string ⟨#[115, 97, 121]⟩, .string ⟨#[110, 111, 116]⟩, .string ⟨#[116, 105, 109, 101, 115]⟩, .string ⟨#[105, 102]⟩, .string ⟨#[98, 97, 115, 105, 99]⟩, .string ⟨#[98, 97, 99, 107]⟩]) (.int .i64 (k : Int))).run Tryd.prog w = .ok (.string (bs (wordsL.getD k []))) w := by
  intro w
  rcases (show k = 0 ∨ k = 1 ∨ k = 2 ∨ k = 3 ∨ k = 4 ∨ k = 5 ∨ k = 6 by omega) with rfl | rfl | rfl | rfl | rfl | rfl | rfl
  all_goals kernel_rfl
def KdRel (l : List UInt8) (w : World) (i : Value) (wr : World) : Prop := ∃ k : Nat, k ≤ 7 ∧ i = .int .i64 k ∧ (∀ j, j < k → wordsL.getD j [] ≠ l) ∧ w = wr
set_option maxRecDepth 8000 in
set_option maxHeartbeats 4000000 in
theorem kind_any (l : List UInt8) (w : World) (hT : WdAt w) :
    Calls Tryd.prog 18 #[.string (bs l)] w fun e w' => e = .returned (.int .i64 (kindI l)) ∧ w = w' := by
  obtain ⟨c0, c1, c2, c3, c4, c5, c6⟩ := hT.facts
  go_enter Tryd.func18, Tryd.ntmps18
  go_wp2
  clear c0 c1 c2 c3 c4 c5 c6 hT
  go_loopw [6] (fun i wr => KdRel l w i wr) (fun i _ => 7 - (intOf i).toNat)
  case atStart => exact ⟨0, by omega, rfl, fun j hj => absurd hj (by omega), rfl⟩
  case round =>
    obtain ⟨k, hk, rfl, hall, rfl⟩ := hrel
    by_cases h7 : k = 7
    · subst h7
      go_wp2
      go_ret
      exact ⟨by rw [kindI_no hall]; rfl, rfl⟩
    · have hlt : (k : Int) < 7 := by omega
      have hi := word_at (k := k) (by omega)
      by_cases hl : wordsL.getD k [] = l
      · have HZ := Lib.hid (kind_at (by omega) hall hl)
        rw [hl] at hi
        clear hall hl h7
        go_wp2
        go_ret
        exact ⟨Eq.trans rfl HZ.out, rfl⟩
      · have hm : ∀ j, j < k + 1 → wordsL.getD j [] ≠ l := fun j hj => by
          by_cases e : j = k
          · rw [e]; exact hl
          · exact hall j (by omega)
        have hn := bs_ne hl
        rw [← toL_bs (wordsL.getD k [])] at hn
        have HM := Lib.hid hm
        clear hall hl hm h7
        generalize bs (wordsL.getD k []) = T at *
        go_wp2
        go_roundw
        case rel => exact ⟨k + 1, by omega, by go_num, HM.out, rfl⟩
        case measure => simp [intOf]; omega

/-- A number's text read. -/
def NumC (l : List UInt8) (w : World) : Prop := Calls Tryd.prog 19 #[.string (bs l)] w fun e w' => e = .returned (.int .i64 (numI l)) ∧ w.grownBy w' none
set_option maxHeartbeats 1600000 in
theorem numin_no (l : List UInt8) (hl : l.length ≤ L48) (h : ∀ v, Lib.atoiAll l ≠ .ok v) (w : World) (hE : ErAt w) : NumC l w := by
  have ca := atoi_no l hl h w hE
  have hx : numI l = -1 := by
    unfold numI
    cases e : Lib.atoiAll l with
    | ok v => exact absurd e (h v)
    | range => rfl
    | _ => rfl
  unfold NumC
  rw [hx]
  clear hx hE h
  go_enter Tryd.func19, Tryd.ntmps19
  go_wp2_with (first | (go_at_call 25; refine ca.mono ?_; rintro e w' ⟨⟨n, N, rfl⟩, hg⟩))
  go_ret
  exact ⟨rfl, hg⟩
set_option maxHeartbeats 1600000 in
theorem numin_ok (l : List UInt8) (hl : l.length ≤ L48) (v : Int) (h : Lib.atoiAll l = .ok v) (w : World) : NumC l w := by
  have ca := atoi_ok l hl v h w
  have hx : numI l = if 0 ≤ v ∧ v ≤ 99 ∧ Lib.itoa v = l then v else -1 := by unfold numI; rw [h]
  unfold NumC
  rw [hx]
  clear hx h
  by_cases h0 : 0 ≤ v
  · by_cases h9 : v ≤ 99
    · obtain ⟨k, rfl⟩ := Int.eq_ofNat_of_zero_le h0
      have ci := itoa2_any k (by omega)
      rw [itoa_dec (by omega)]
      have n0 : ¬ ((k : Int) < 0) := by omega
      have n9 : ¬ (99 < (k : Int)) := by omega
      by_cases he : decL k = l
      · rw [if_pos ⟨h0, h9, he⟩]
        subst he
        go_enter Tryd.func19, Tryd.ntmps19
        go_wp2_with (first | (go_at_call 25; refine ca.mono ?_; rintro e w' ⟨rfl, hg⟩) | (go_at_call 26; refine (ci _).mono ?_; rintro e w' ⟨rfl, rfl⟩))
        go_ret
        exact ⟨rfl, hg⟩
      · rw [if_neg fun hh => he hh.2.2]
        have hn := bs_ne he
        rw [← toL_bs (decL k)] at hn
        go_enter Tryd.func19, Tryd.ntmps19
        go_wp2_with (first | (go_at_call 25; refine ca.mono ?_; rintro e w' ⟨rfl, hg⟩) | (go_at_call 26; refine (ci _).mono ?_; rintro e w' ⟨rfl, rfl⟩))
        go_ret
        exact ⟨rfl, hg⟩
    · rw [if_neg fun hh => h9 hh.2.1]
      have n0 : ¬ (v < 0) := by omega
      have n9 : 99 < v := by omega
      go_enter Tryd.func19, Tryd.ntmps19
      go_wp2_with (first | (go_at_call 25; refine ca.mono ?_; rintro e w' ⟨rfl, hg⟩))
      all_goals go_ret
      all_goals exact ⟨rfl, hg⟩
  · rw [if_neg fun hh => h0 hh.1]
    have n0 : v < 0 := by omega
    go_enter Tryd.func19, Tryd.ntmps19
    go_wp2_with (first | (go_at_call 25; refine ca.mono ?_; rintro e w' ⟨rfl, hg⟩))
    all_goals go_ret
    all_goals exact ⟨rfl, hg⟩
theorem num_any (l : List UInt8) (hl : l.length ≤ L48) (w : World) (hE : ErAt w) : NumC l w := by
  by_cases h : ∃ v, Lib.atoiAll l = .ok v
  · obtain ⟨v, h⟩ := h; exact numin_ok l hl v h w
  · exact numin_no l hl (fun v e => h ⟨v, e⟩) w hE

end Go.Proofs.YtlnffpofbfigaaaDoor

/-
  A row of pairs in the call's own memory, marked.
-/
namespace Go.Proofs.YtlnffpofbfigaaaDoor
open Go.RowKit

/-- The pairs that the laws write into a row, from the mark k on. -/
def mkP (k : Nat) (i : Nat) : Ld := (((k + 2 * i : Nat) : Int), mtx (k + 2 * i + 1))
def mkRow (k n : Nat) : List Ld := (List.range n).map (mkP k)
theorem mkRow_len (k n : Nat) : (mkRow k n).length = n := by simp [mkRow]
theorem mkRow_at (k n i : Nat) (h : i < n) : (mkRow k n).getD i nilLd = mkP k i := by simp [mkRow, List.getD_eq_getElem?_getD, h]
/-- The row while it is marked: the first i are. -/
def MkCur (cur : Array Value) (off k n i : Nat) : Prop :=
  (∀ j, j < i → cur[off + j * 2]? = some (.int .i64 (mkP k j).1) ∧ cur[off + j * 2 + 1]? = some (.string (bs (mkP k j).2))) ∧ ∀ j, i ≤ j → j < n → ∃ u v, cur[off + j * 2]? = some u ∧ cur[off + j * 2 + 1]? = some v
theorem MkCur.next {cur : Array Value} {off k n i : Nat} (h : MkCur cur off k n i) (hi : i < n) : MkCur ((cur.setIfInBounds (off + i * 2) (.int .i64 (mkP k i).1)).setIfInBounds (off + i * 2 + 1) (.string (bs (mkP k i).2))) off k n (i + 1) := by
  obtain ⟨u, v, hu, hv⟩ := h.2 i (Nat.le_refl _) hi
  have su := (Array.getElem?_eq_some_iff.1 hu).1
  have sv := (Array.getElem?_eq_some_iff.1 hv).1
  refine ⟨fun j hj => ?_, fun j hj hn => ?_⟩
  · by_cases e : j = i
    · subst e
      refine ⟨?_, ?_⟩
      · rw [Array.getElem?_setIfInBounds_ne (by omega), Array.getElem?_setIfInBounds_self_of_lt su]
      · rw [Array.getElem?_setIfInBounds_self_of_lt (by simpa using sv)]
    · have := h.1 j (by omega)
      refine ⟨?_, ?_⟩
      · rw [Array.getElem?_setIfInBounds_ne (by omega), Array.getElem?_setIfInBounds_ne (by omega)]; exact this.1
      · rw [Array.getElem?_setIfInBounds_ne (by omega), Array.getElem?_setIfInBounds_ne (by omega)]; exact this.2
  · obtain ⟨x, y, h1, h2⟩ := h.2 j (by omega) hn
    refine ⟨x, y, ?_, ?_⟩
    · rw [Array.getElem?_setIfInBounds_ne (by omega), Array.getElem?_setIfInBounds_ne (by omega)]; exact h1
    · rw [Array.getElem?_setIfInBounds_ne (by omega), Array.getElem?_setIfInBounds_ne (by omega)]; exact h2

theorem grown_any {a b : World} {row : Option Nat} (h : a.grownBy b none) : a.grownBy b row := ⟨h.os, h.tape, h.output, h.size, fun k hk _ => h.block k hk (by simp)⟩

end Go.Proofs.YtlnffpofbfigaaaDoor

/-
  Marked rows of pairs read again; whole desks marked and read again.
-/
namespace Go.Proofs.YtlnffpofbfigaaaDoor
open Go.RowKit

def HlRelD (k n : Nat) (w : World) (kv iv : Value) (wr : World) : Prop := ∃ i : Nat, i ≤ n ∧ kv = .int .i64 ((k + 2 * i : Nat) : Int) ∧ iv = .int .i64 i ∧ w.grownBy wr none

end Go.Proofs.YtlnffpofbfigaaaDoor

/-
  The exact law of DeskNew: a desk without anything of before.
-/
namespace Go.Proofs.YtlnffpofbfigaaaDoor
open Go.RowKit

end Go.Proofs.YtlnffpofbfigaaaDoor

/-
  The draws of chapter 12: a deed.
-/
namespace Go.Proofs.YtlnffpofbfigaaaDoor
open Go.RowKit

theorem lit8 (k : Nat) (h : k < 8) : ∃ v : Int, (#[.int .i64 0, .int .i64 1, .int .i64 1, .int .i64 2, .int .i64 3, .int .i64 4, .int .i64 5, .int .i64 6] : Array Value)[k]? = some (.int .i64 v) ∧ 0 ≤ v ∧ v ≤ 6 := by
  match k, h with
  | 0, _ => exact ⟨_, rfl, by decide⟩
  | 1, _ => exact ⟨_, rfl, by decide⟩
  | 2, _ => exact ⟨_, rfl, by decide⟩
  | 3, _ => exact ⟨_, rfl, by decide⟩
  | 4, _ => exact ⟨_, rfl, by decide⟩
  | 5, _ => exact ⟨_, rfl, by decide⟩
  | 6, _ => exact ⟨_, rfl, by decide⟩
  | 7, _ => exact ⟨_, rfl, by decide⟩

theorem cell_made2 {w : World} {A : Obj} {C : Array Value} {t : TypeId} {k : Nat} {x : Value} (hC : C[k]? = some x) : ((w.alloc A).alloc (.cells C t)).cell? ⟨w.heap.size + 1, k, none⟩ = some x := (CellsAt.second w A C t).cell hC
theorem cell_kept2 {w w' : World} {A : Obj} {C : Array Value} {t : TypeId} {r k : Nat} {x : Value} (hg : ((w.alloc A).alloc (.cells C t)).grownBy w' (some r)) (hr : r < w.heap.size) (hC : C[k]? = some x) : w'.cell? ⟨w.heap.size + 1, k, none⟩ = some x :=
  ((CellsAt.second w A C t).kept hg (by simp; omega)).cell hC
theorem cell_kept3 {w w' : World} {A : Obj} {C : Array Value} {t : TypeId} {r k : Nat} {x : Value} (hg : ((w.alloc (.cells C t)).alloc A).grownBy w' (some r)) (hr : r < w.heap.size) (hC : C[k]? = some x) : w'.cell? ⟨w.heap.size, k, none⟩ = some x :=
  ((CellsAt.first w A C t).kept hg (by simp; omega)).cell hC

theorem af_1 {W0 wb : World} {r : Nat} (hg : (W0.alloc (.cells #[.int .i64 0, .int .i64 0, .string ⟨#[]⟩] 29)).grownBy wb (some r)) (hr : r < W0.heap.size) : CellsAt wb W0.heap.size #[.int .i64 0, .int .i64 0, .string ⟨#[]⟩] 29 := (CellsAt.new W0 _ _).kept hg (by simp; omega)
theorem af_2 {W0 wb : World} {X : Obj} {r : Nat} (hg : ((W0.alloc X).alloc (.cells #[.int .i64 0, .int .i64 0, .string ⟨#[]⟩] 29)).grownBy wb (some r)) (hr : r < W0.heap.size) : CellsAt wb (W0.heap.size + 1) #[.int .i64 0, .int .i64 0, .string ⟨#[]⟩] 29 := (CellsAt.second W0 X _ _).kept hg (by simp; omega)
theorem af_3 {W0 wb : World} {X : Obj} {r : Nat} (hg : ((W0.alloc (.cells #[.int .i64 0, .int .i64 0, .string ⟨#[]⟩] 29)).alloc X).grownBy wb (some r)) (hr : r < W0.heap.size) : CellsAt wb W0.heap.size #[.int .i64 0, .int .i64 0, .string ⟨#[]⟩] 29 := (CellsAt.first W0 X _ _).kept hg (by simp; omega)
theorem af_4 {wb wd : World} {b r : Nat} (h : CellsAt wb b #[.int .i64 0, .int .i64 0, .string ⟨#[]⟩] 29) (hg : wb.grownBy wd (some r)) (hr : r < b) : CellsAt wd b #[.int .i64 0, .int .i64 0, .string ⟨#[]⟩] 29 := h.kept hg (by simp; omega)
theorem af_5 {wb wd : World} {X : Obj} {b r : Nat} (h : CellsAt wb b #[.int .i64 0, .int .i64 0, .string ⟨#[]⟩] 29) (hg : (wb.alloc X).grownBy wd (some r)) (hr : r < b) : CellsAt wd b #[.int .i64 0, .int .i64 0, .string ⟨#[]⟩] 29 := (h.grown (World.grownBy_alloc _ _ none)).kept hg (by simp; omega)

theorem cell_stays2 {w1 w2 : World} {X : Obj} {r b k : Nat} {x : Value} (h : w1.cell? ⟨b, k, none⟩ = some x) (hg : (w1.alloc X).grownBy w2 (some r)) (hne : r < b) : w2.cell? ⟨b, k, none⟩ = some x :=
  cell_stays ((World.grownBy_alloc w1 X none).cell h (by simp)) hg hne

def DeedPost (r P : Nat) (w : World) (e : Ending) (w' : World) : Prop :=
  ∃ D : Dd, e = .returned (.agg #[.int .i64 D.1, .int .i64 D.2.1, .string (bs D.2.2)]) ∧ D.2.2.length ≤ 100 ∧ Rd w' r (P + 100) ∧ w.grownBy w' (some r)
/-- A deed that is being made: its block, and the result's. -/
def DeedAt (w0 : World) (r P : Nat) (v : Value) (wc : World) : Prop :=
  ∃ (b : Nat) (k : Int), v = .pointer (some ⟨b, 0, none⟩) ∧ CellsAt wc b #[.int .i64 k, .int .i64 0, .string ⟨#[]⟩] 29 ∧ w0.heap.size < b ∧ CellsAt wc w0.heap.size #[.int .i64 0, .int .i64 0, .string ⟨#[]⟩] 29 ∧ 0 ≤ k ∧ k ≤ 13 ∧ Rd wc r (P + 2) ∧ w0.grownBy wc (some r)

theorem kbound (v : Int) (k2 : Nat) (h : 0 ≤ v ∧ v ≤ 6) (hk : k2 < 60) : 0 ≤ IntKind.i64.wrap (v + IntKind.i64.wrap (IntKind.i64.wrap ((k2 : Int) / 59) * 7)) ∧ IntKind.i64.wrap (v + IntKind.i64.wrap (IntKind.i64.wrap ((k2 : Int) / 59) * 7)) ≤ 13 := by
  have e1 : IntKind.i64.wrap ((k2 : Int) / 59) = (k2 : Int) / 59 := IntWalk.i64_in _ (by omega)
  have e2 : IntKind.i64.wrap ((k2 : Int) / 59 * 7) = (k2 : Int) / 59 * 7 := IntWalk.i64_in _ (by omega)
  have e3 : IntKind.i64.wrap (v + (k2 : Int) / 59 * 7) = v + (k2 : Int) / 59 * 7 := IntWalk.i64_in _ (by omega)
  rw [e1, e2, e3]; omega
theorem deed_1 {w wd : World} {r P : Nat} {k : Int} (hR : CellsAt wd w.heap.size #[.int .i64 0, .int .i64 0, .string ⟨#[]⟩] 29) (hr : Rd wd r (P + 2)) (hg : w.grownBy wd (some r)) (hK : 0 ≤ k ∧ k ≤ 13) : DeedAt w r P (.pointer (some ⟨wd.heap.size, 0, none⟩)) (wd.alloc (.cells #[.int .i64 k, .int .i64 0, .string ⟨#[]⟩] 29)) :=
  ⟨_, k, rfl, CellsAt.new wd _ _, hR.lt, hR.grown (World.grownBy_alloc _ _ none), hK.1, hK.2, hr.alloc _, grownBy_trans hg (World.grownBy_alloc _ _ _)⟩
theorem deed_2 {w wd : World} {r P : Nat} {k : Int} {X : Obj} (hR : CellsAt wd w.heap.size #[.int .i64 0, .int .i64 0, .string ⟨#[]⟩] 29) (hr : Rd wd r (P + 2)) (hg : w.grownBy wd (some r)) (hK : 0 ≤ k ∧ k ≤ 13) : DeedAt w r P (.pointer (some ⟨wd.heap.size + 1, 0, none⟩)) ((wd.alloc X).alloc (.cells #[.int .i64 k, .int .i64 0, .string ⟨#[]⟩] 29)) :=
  ⟨_, k, rfl, CellsAt.second wd X _ _, by have := hR.lt; omega, (hR.grown (World.grownBy_alloc _ _ none)).grown (World.grownBy_alloc _ _ none), hK.1, hK.2, (hr.alloc _).alloc _, grownBy_trans (grownBy_trans hg (World.grownBy_alloc _ _ _)) (World.grownBy_alloc _ _ _)⟩
theorem deed_3 {w wd : World} {r P : Nat} {k : Int} {X : Obj} (hR : CellsAt wd w.heap.size #[.int .i64 0, .int .i64 0, .string ⟨#[]⟩] 29) (hr : Rd wd r (P + 2)) (hg : w.grownBy wd (some r)) (hK : 0 ≤ k ∧ k ≤ 13) : DeedAt w r P (.pointer (some ⟨wd.heap.size, 0, none⟩)) ((wd.alloc (.cells #[.int .i64 k, .int .i64 0, .string ⟨#[]⟩] 29)).alloc X) :=
  ⟨_, k, rfl, CellsAt.first wd X _ _, hR.lt, (hR.grown (World.grownBy_alloc _ _ none)).grown (World.grownBy_alloc _ _ none), hK.1, hK.2, (hr.alloc _).alloc _, grownBy_trans (grownBy_trans hg (World.grownBy_alloc _ _ _)) (World.grownBy_alloc _ _ _)⟩
theorem rd_sets {wd w' : World} {r P b : Nat} (hr : Rd wd r P) (hg : wd.grownBy w' (some b)) (hb : r < b) : Rd w' r P := hr.kept fun k hk => hg.block k (by have := hr.lt; omega) (by simp; omega)
theorem grown_sets {w wd w' : World} {r b : Nat} (h : w.grownBy wd (some r)) (hg : wd.grownBy w' (some b)) (hb : w.heap.size ≤ b) : w.grownBy w' (some r) :=
  ⟨hg.os.trans h.os, hg.tape.trans h.tape, hg.output.trans h.output, Nat.le_trans h.size hg.size, fun k hk hn => (hg.block k (Nat.lt_of_lt_of_le hk h.size) (by simp; omega)).trans (h.block k hk hn)⟩
theorem deed_4 {w wd : World} {r P b : Nat} {k : Int} (hR : CellsAt wd w.heap.size #[.int .i64 0, .int .i64 0, .string ⟨#[]⟩] 29) (hr : Rd wd r (P + 2)) (hg : w.grownBy wd (some r)) (hl : r < w.heap.size) (hK : 0 ≤ k ∧ k ≤ 13) (hZ : CellsAt wd b #[.int .i64 0, .int .i64 0, .string ⟨#[]⟩] 29) (hb : w.heap.size < b) : DeedAt w r P (.pointer (some ⟨b, 0, none⟩)) (((wd.setCell ⟨b, 0, none⟩ (.int .i64 k)).setCell ⟨b, 1, none⟩ (.int .i64 0)).setCell ⟨b, 2, none⟩ (.string ⟨#[]⟩)) :=
  ⟨b, k, rfl, hZ.put3 _ _ _, hb, hR.kept (put3_past wd b _ _ _) (by simp; omega), hK.1, hK.2, rd_sets hr (put3_past wd b _ _ _) (by omega), grown_sets hg (put3_past wd b _ _ _) (by omega)⟩
theorem deed_5 {w wd : World} {r P b : Nat} {k : Int} {X : Obj} (hR : CellsAt wd w.heap.size #[.int .i64 0, .int .i64 0, .string ⟨#[]⟩] 29) (hr : Rd wd r (P + 2)) (hg : w.grownBy wd (some r)) (hl : r < w.heap.size) (hK : 0 ≤ k ∧ k ≤ 13) (hZ : CellsAt wd b #[.int .i64 0, .int .i64 0, .string ⟨#[]⟩] 29) (hb : w.heap.size < b) : DeedAt w r P (.pointer (some ⟨b, 0, none⟩)) ((((wd.setCell ⟨b, 0, none⟩ (.int .i64 k)).setCell ⟨b, 1, none⟩ (.int .i64 0)).setCell ⟨b, 2, none⟩ (.string ⟨#[]⟩)).alloc X) := by
  obtain ⟨b', k', h1, h2, h3, h4, h5, h6, h7, h8⟩ := deed_4 (P := P) hR hr hg hl hK hZ hb
  exact ⟨b', k', h1, h2.grown (World.grownBy_alloc _ _ none), h3, h4.grown (World.grownBy_alloc _ _ none), h5, h6, h7.alloc _, grownBy_trans h8 (World.grownBy_alloc _ _ _)⟩

theorem sizeDd : (Tryd.prog.info? 29).map (·.size) = some 3 := by kernel_rfl
theorem resDd {fn : Func} {p : Tmp} (h : fn.results = #[.cell p 29]) (tmps : Array Value) {w : World} {B : Nat} {x y z : Value} (hp : tmps.getD p undef = .pointer (some ⟨B, 0, none⟩)) (hB : CellsAt w B #[x, y, z] 29) :
    (results fn tmps).run Tryd.prog w = .ok (.agg #[x, y, z]) w := results_cell_row h tmps w B 29 #[x, y, z] (0, 0) _ hp hB Tryd.underlying29 rfl sizeDd
theorem deed_end {w W : World} {r P Q : Nat} {K N : Int} {s : ByteArray} (hR : CellsAt W w.heap.size #[.int .i64 0, .int .i64 0, .string ⟨#[]⟩] 29) (hr : Rd W r Q) (hQ : Q ≤ P + 100) (hg : w.grownBy W (some r)) (hl : r < w.heap.size) (hs : s.size ≤ 100) :
    CellsAt (((W.setCell ⟨w.heap.size, 0, none⟩ (.int .i64 K)).setCell ⟨w.heap.size, 1, none⟩ (.int .i64 N)).setCell ⟨w.heap.size, 2, none⟩ (.string s)) w.heap.size #[.int .i64 K, .int .i64 N, .string s] 29 ∧
      DeedPost r P w (.returned (.agg #[.int .i64 K, .int .i64 N, .string s])) (((W.setCell ⟨w.heap.size, 0, none⟩ (.int .i64 K)).setCell ⟨w.heap.size, 1, none⟩ (.int .i64 N)).setCell ⟨w.heap.size, 2, none⟩ (.string s)) :=
  ⟨hR.put3 _ _ _, (K, N, bl s), rfl, by show (bl s).length ≤ 100; rw [← bl_size]; exact hs, (rd_sets hr (put3_past W _ _ _ _) hl).mono hQ, grown_sets hg (put3_past W _ _ _ _) (Nat.le_refl _)⟩
theorem set_facts {W : World} {b : Nat} {u v x : Value} (h : CellsAt W b #[u, v, x] 29) : (W.cell? ⟨b, 0, none⟩ = some u ∧ W.cell? ⟨b, 1, none⟩ = some v ∧ W.cell? ⟨b, 2, none⟩ = some x) ∧ W.frozen? ⟨b, 0, none⟩ = false ∧ W.frozen? ⟨b, 1, none⟩ = false ∧ W.frozen? ⟨b, 2, none⟩ = false := ⟨h.three, h.frozen 0, h.frozen 1, h.frozen 2⟩

end Go.Proofs.YtlnffpofbfigaaaDoor

/-
  Deeds counted and copied; desks with rows marked and read again.
-/
namespace Go.Proofs.YtlnffpofbfigaaaDoor
open Go.RowKit

/-- What is left of a row that was marked: its pairs; nothing else changed but its own block. -/
def MarkedD (a : Option Addr) (k n : Nat) (w w' : World) : Prop := LdsAt w' a (mkRow k n) ∧ ∃ row : Option Nat, (∀ g, row = some g → 0 < n ∧ ∃ x, a = some x ∧ x.block = g) ∧ w.grownBy w' row

end Go.Proofs.YtlnffpofbfigaaaDoor

/-
  Rows of deeds: what lies in them; rows that a call made.
-/
namespace Go.Proofs.YtlnffpofbfigaaaDoor
open Go.RowKit

def nilDd : Dd := (0, 0, [])
/-- The cells of a row of deeds. -/
def ddC : List Dd → List Value
  | [] => []
  | x :: l => .int .i64 x.1 :: .int .i64 x.2.1 :: .string (bs x.2.2) :: ddC l
theorem ddC_len : ∀ l : List Dd, (ddC l).length = l.length * 3
  | [] => rfl
  | x :: l => by show (ddC l).length + 1 + 1 + 1 = (l.length + 1) * 3; rw [ddC_len l]; omega
theorem ddC_app : ∀ l m : List Dd, ddC (l ++ m) = ddC l ++ ddC m
  | [], m => rfl
  | x :: l, m => by show _ :: _ :: _ :: ddC (l ++ m) = _; rw [ddC_app l m]; rfl
theorem ddC_at : ∀ (l : List Dd) (i : Nat), i < l.length → (ddC l)[i * 3]? = some (.int .i64 (l.getD i nilDd).1) ∧ (ddC l)[i * 3 + 1]? = some (.int .i64 (l.getD i nilDd).2.1) ∧ (ddC l)[i * 3 + 2]? = some (.string (bs (l.getD i nilDd).2.2))
  | [], i, h => absurd h (by simp)
  | x :: l, 0, _ => ⟨rfl, rfl, rfl⟩
  | x :: l, i + 1, h => by
    have := ddC_at l i (by simpa using h)
    rw [show (i + 1) * 3 = i * 3 + 1 + 1 + 1 by omega]
    exact this
theorem ddC_one : ∀ (l : List Dd), ∀ u ∈ ddC l, u.oneCell' = true
  | [], u, h => absurd h (by simp [ddC])
  | x :: l, u, h => by
    rcases List.mem_cons.1 h with rfl | h
    · rfl
    · rcases List.mem_cons.1 h with rfl | h
      · rfl
      · rcases List.mem_cons.1 h with rfl | h
        · rfl
        · exact ddC_one l u h
theorem ddC_get {l : List Dd} {j : Nat} {u : Value} (h : (ddC l)[j]? = some u) : ∃ i, i < l.length ∧ ((j = i * 3 ∧ u = .int .i64 (l.getD i nilDd).1) ∨ (j = i * 3 + 1 ∧ u = .int .i64 (l.getD i nilDd).2.1) ∨ (j = i * 3 + 2 ∧ u = .string (bs (l.getD i nilDd).2.2))) := by
  have hj := (List.getElem?_eq_some_iff.1 h).1
  rw [ddC_len] at hj
  have hi : j / 3 < l.length := by omega
  have hc := ddC_at l (j / 3) hi
  refine ⟨j / 3, hi, ?_⟩
  have hm : j % 3 = 0 ∨ j % 3 = 1 ∨ j % 3 = 2 := by omega
  rcases hm with e | e | e
  · have ej : j = j / 3 * 3 := by omega
    rw [ej] at h
    have := h.symm.trans hc.1
    exact .inl ⟨ej, by simpa using this⟩
  · have ej : j = j / 3 * 3 + 1 := by omega
    rw [ej] at h
    have := h.symm.trans hc.2.1
    exact .inr (.inl ⟨ej, by simpa using this⟩)
  · have ej : j = j / 3 * 3 + 2 := by omega
    rw [ej] at h
    have := h.symm.trans hc.2.2
    exact .inr (.inr ⟨ej, by simpa using this⟩)

/-- A row of deeds as it can be read. -/
def DdsAt (w : World) (a : Option Addr) (xs : List Dd) : Prop :=
  xs.length ≤ maxLen ∧ (xs = [] ∨ ∃ b off, a = some ⟨b, off, none⟩ ∧ b < w.heap.size ∧ ∀ i, i < xs.length → w.cell? ⟨b, off + i * 3, none⟩ = some (.int .i64 (xs.getD i nilDd).1) ∧ w.cell? ⟨b, off + i * 3 + 1, none⟩ = some (.int .i64 (xs.getD i nilDd).2.1) ∧ w.cell? ⟨b, off + i * 3 + 2, none⟩ = some (.string (bs (xs.getD i nilDd).2.2)))
theorem DdsAt.kept {w w' : World} {a : Option Addr} {xs : List Dd} {row : Option Nat} (h : DdsAt w a xs) (hg : w.grownBy w' row) (hne : ∀ x, a = some x → some x.block ≠ row) : DdsAt w' a xs := by
  refine ⟨h.1, ?_⟩
  rcases h.2 with h | ⟨b, off, ha, hb, hc⟩
  · exact .inl h
  · exact .inr ⟨b, off, ha, Nat.lt_of_lt_of_le hb hg.size, fun i hi => ⟨(World.cell?_of_block (w := w) (a := ⟨b, off + i * 3, none⟩) (hg.block b hb (hne _ ha))).trans (hc i hi).1, (World.cell?_of_block (w := w) (a := ⟨b, off + i * 3 + 1, none⟩) (hg.block b hb (hne _ ha))).trans (hc i hi).2.1, (World.cell?_of_block (w := w) (a := ⟨b, off + i * 3 + 2, none⟩) (hg.block b hb (hne _ ha))).trans (hc i hi).2.2⟩⟩
theorem DdsAt.grown {w w' : World} {a : Option Addr} {xs : List Dd} (h : DdsAt w a xs) (hg : w.grownBy w' none) : DdsAt w' a xs := h.kept hg (by simp)
theorem DdsAt.nil (w : World) (a : Option Addr) : DdsAt w a [] := ⟨by simp, .inl rfl⟩
theorem DdsAt.take {w : World} {a : Option Addr} {xs : List Dd} (h : DdsAt w a xs) (n : Nat) : DdsAt w a (xs.take n) := by
  refine ⟨Nat.le_trans (by rw [List.length_take]; omega) h.1, ?_⟩
  rcases h.2 with h | ⟨b, off, ha, hb, hc⟩
  · exact .inl (by rw [h, List.take_nil])
  · refine .inr ⟨b, off, ha, hb, fun i hi => ?_⟩
    rw [List.length_take] at hi
    have e : (xs.take n).getD i nilDd = xs.getD i nilDd := by
      rw [List.getD_eq_getElem?_getD, List.getD_eq_getElem?_getD, List.getElem?_take, if_pos (by omega)]
    rw [e]
    exact hc i (by omega)
theorem DdsAt.drop {w : World} {b off : Nat} {xs : List Dd} (h : DdsAt w (some ⟨b, off, none⟩) xs) (n : Nat) : DdsAt w (some ⟨b, off + n * 3, none⟩) (xs.drop n) := by
  refine ⟨Nat.le_trans (by rw [List.length_drop]; omega) h.1, ?_⟩
  rcases h.2 with h | ⟨b', off', ha, hb, hc⟩
  · exact .inl (by rw [h, List.drop_nil])
  · cases ha
    refine .inr ⟨b, off + n * 3, rfl, hb, fun i hi => ?_⟩
    rw [List.length_drop] at hi
    have e : (xs.drop n).getD i nilDd = xs.getD (n + i) nilDd := by
      rw [List.getD_eq_getElem?_getD, List.getD_eq_getElem?_getD, List.getElem?_drop]
    have k := hc (n + i) (by omega)
    rw [show off + (n + i) * 3 = off + n * 3 + i * 3 by omega] at k
    rw [e]
    exact k

/-- A row of deeds that the call owns, from its block's first cell on. -/
def Own3 (w : World) (base : Nat) (a : Option Addr) (cap : Nat) (xs : List Dd) : Prop :=
  w.ownsRow base 29 3 (.slice a xs.length cap) xs.length (ddC xs)
theorem own3_shape {w : World} {base n : Nat} {v : Value} {zs : List Dd} (h : w.ownsRow base 29 3 v n (ddC zs)) : ∃ a cap, v = .slice a zs.length cap ∧ n = zs.length ∧ Own3 w base a cap zs := by
  have hl := h.1
  rw [ddC_len] at hl
  obtain rfl : n = zs.length := by omega
  rcases h.2 with ⟨rfl, h0⟩ | ⟨g, cap, cur, rfl, h1⟩
  · exact ⟨none, 0, by rw [h0], rfl, by unfold Own3; rw [h0]; rw [h0] at h; exact h⟩
  · exact ⟨some ⟨g, 0, none⟩, cap, rfl, rfl, h⟩
theorem Own3.nil (w : World) (base : Nat) : Own3 w base none 0 [] := World.ownsRow_nil _ _ _ _
theorem Own3.made (w : World) : Own3 (w.alloc (.cells #[] 29)) w.heap.size (some ⟨w.heap.size, 0, none⟩) 0 [] := World.ownsRow_made w #[] 0 (Nat.le_refl _) (Nat.zero_le _) rfl
theorem Own3.kept {w w' : World} {base : Nat} {a : Option Addr} {cap : Nat} {zs : List Dd} (h : Own3 w base a cap zs) (hg : w.grownBy w' none) : Own3 w' base a cap zs :=
  World.ownsRow.kept h hg (by cases (Value.slice a zs.length cap).ownBlock <;> simp)
theorem Own3.past {w w' : World} {base b : Nat} {a : Option Addr} {cap : Nat} {zs : List Dd} (h : Own3 w base a cap zs) (hg : w.grownBy w' (some b)) (hb : b < base) : Own3 w' base a cap zs :=
  World.ownsRow.kept h hg (.inr fun e => by have := World.ownsRow.lt h _ e; omega)
theorem Own3.bare {w : World} {base : Nat} {a : Option Addr} {cap : Nat} {zs : List Dd} (h : Own3 w base a cap zs) : a = none → cap = 0 := by
  intro e
  subst e
  rcases h.2 with ⟨h0, _⟩ | ⟨g, c, cur, he, _⟩
  · simp only [Value.slice.injEq] at h0; exact h0.2.2
  · simp at he
theorem Own3.room {w : World} {base : Nat} {a : Option Addr} {cap : Nat} {zs : List Dd} (h : Own3 w base a cap zs) : zs.length ≤ cap ∧ cap ≤ maxLen := by
  rcases h.2 with ⟨h0, h1⟩ | ⟨g, c, cur, he, _, _, hn, hc, _⟩
  · simp only [Value.slice.injEq] at h0
    rw [h1, h0.2.2]; exact ⟨Nat.le_refl _, Nat.zero_le _⟩
  · simp only [Value.slice.injEq, true_and] at he
    rw [he.2]; exact ⟨hn, hc⟩
theorem Own3.mono {w : World} {base base' : Nat} {a : Option Addr} {cap : Nat} {zs : List Dd} (h : Own3 w base a cap zs) (hb : base' ≤ base) : Own3 w base' a cap zs := by
  refine ⟨h.1, ?_⟩
  rcases h.2 with h | ⟨g, c, cur, h1, h2, h3⟩
  · exact .inl h
  · exact .inr ⟨g, c, cur, h1, Nat.le_trans hb h2, h3⟩
theorem Own3.curs {w : World} {base : Nat} {a : Option Addr} {cap : Nat} {zs : List Dd} (h : Own3 w base a cap zs) : zs = [] ∨ ∃ (g : Nat) (cur : Array Value), a = some ⟨g, 0, none⟩ ∧ base ≤ g ∧ w.heap[g]? = some (.cells cur 29 (0, 0)) ∧ ∀ i, i < zs.length → cur[i * 3]? = some (.int .i64 (zs.getD i nilDd).1) ∧ cur[i * 3 + 1]? = some (.int .i64 (zs.getD i nilDd).2.1) ∧ cur[i * 3 + 2]? = some (.string (bs (zs.getD i nilDd).2.2)) := by
  rcases h.2 with ⟨_, h0⟩ | ⟨g, c, cur, he, hb, hg, hnc, hcm, hcs, htake⟩
  · exact .inl (List.length_eq_zero_iff.1 h0)
  · simp only [Value.slice.injEq, true_and] at he
    obtain ⟨rfl, rfl⟩ := he
    refine .inr ⟨g, cur, rfl, hb, hg, fun i hi => ?_⟩
    have k := ddC_at zs i hi
    rw [← htake, List.getElem?_take, if_pos (by omega), List.getElem?_take, if_pos (by omega), List.getElem?_take, if_pos (by omega)] at k
    simpa using k
theorem Own3.at {w : World} {base : Nat} {a : Option Addr} {cap : Nat} {zs : List Dd} (h : Own3 w base a cap zs) : DdsAt w a zs := by
  refine ⟨Nat.le_trans h.room.1 h.room.2, ?_⟩
  rcases h.curs with h | ⟨g, cur, ha, hb, hg, hc⟩
  · exact .inl h
  · refine .inr ⟨g, 0, ha, (Array.getElem?_eq_some_iff.1 hg).1, fun i hi => ?_⟩
    rw [cell_of_row w g _ cur _ (0, 0) hg, cell_of_row w g _ cur _ (0, 0) hg, cell_of_row w g _ cur _ (0, 0) hg, Nat.zero_add]
    exact hc i hi

theorem infoDd : (Tryd.prog.info? 29).map (fun i => (i.zero, i.size, i.bytes)) = some (some (.agg #[.int .i64 0, .int .i64 0, .string ⟨#[]⟩]), 3, 32) := by kernel_rfl

def DdsPost (xs : List Dd) (w : World) (e : Ending) (w' : World) : Prop :=
  ∃ a cap, e = .returned (.slice a xs.length cap) ∧ Own3 w' w.heap.size a cap xs ∧ w.grownBy w' none
theorem grow_own3 {a b c : World} {base : Nat} {v : Value} {n : Nat} {xs : List Value} {e : TypeId} (h : a.grownBy b none) (ho : b.ownsRow base e 3 v n xs) (hb : a.heap.size ≤ base) (k : b.grownBy c v.ownBlock) : a.grownBy c none :=
  ⟨k.os.trans h.os, k.tape.trans h.tape, k.output.trans h.output, Nat.le_trans h.size k.size, fun i hi _ => by
    refine (k.block i (Nat.lt_of_lt_of_le hi h.size) fun e => ?_).trans (h.block i hi (by simp))
    have := World.ownsRow.lt ho i e.symm
    omega⟩

end Go.Proofs.YtlnffpofbfigaaaDoor

/-
  Ahead of the draw of a desk: what lies where between the deeds.
-/
namespace Go.Proofs.YtlnffpofbfigaaaDoor
open Go.RowKit
theorem doR_len {d : Dk} {D : Dd} (h : (doR d D).2 = true) : (doR d D).1.2.length ≤ d.2.length + 1 := by
  unfold doR at h ⊢
  split at h
  · rename_i hd
    rw [if_pos hd]
    cases hq : doD d D with
    | none => rw [hq] at h; cases h
    | some e =>
      show e.2.length ≤ d.2.length + 1
      rcases doD_of hq with ⟨_, p, _, rfl⟩ | ⟨_, y, _, rfl⟩
      · show d.2.dropLast.length ≤ _
        rw [List.length_dropLast]; omega
      · show (capP (d.2 ++ [d.1])).length ≤ _
        unfold capP
        rw [List.length_drop, List.length_append, List.length_singleton]; omega
  · cases h
theorem grown_none {a b : World} {row : Option Nat} (h : a.grownBy b none) : a.grownBy b row := ⟨h.os, h.tape, h.output, h.size, fun k hk _ => h.block k hk (by simp)⟩

theorem rd_put {wd w' : World} {r P b : Nat} (hr : Rd wd r P) (hg : wd.grownBy w' (some b)) (hb : r < b) : Rd w' r P := hr.kept fun k hk => hg.block k (by have := hr.lt; omega) (by simp; omega)
theorem grown_put {w wd w' : World} {r b : Nat} (h : w.grownBy wd (some r)) (hg : wd.grownBy w' (some b)) (hb : w.heap.size ≤ b) : w.grownBy w' (some r) :=
  ⟨hg.os.trans h.os, hg.tape.trans h.tape, hg.output.trans h.output, Nat.le_trans h.size hg.size, fun k hk hn => (hg.block k (Nat.lt_of_lt_of_le hk h.size) (by simp; omega)).trans (h.block k hk hn)⟩

end Go.Proofs.YtlnffpofbfigaaaDoor

/-
  A deed's text read: impl's ReadDeed.
-/
namespace Go.Proofs.YtlnffpofbfigaaaDoor
open Go.RowKit

theorem resDdB {fn : Func} {p u : Tmp} (h : fn.results = #[.cell p 29, .tmp u]) (tmps : Array Value) {w : World} {B : Nat} {x y z b : Value} (hp : tmps.getD p undef = .pointer (some ⟨B, 0, none⟩)) (hu : tmps.getD u undef = b) (hB : CellsAt w B #[x, y, z] 29) :
    (results fn tmps).run Tryd.prog w = .ok (.tuple #[.agg #[x, y, z], b]) w := by
  rw [results_cell_tmp h, hp, hu]
  have := run_loadVar_row w B 29 29 #[x, y, z] (0, 0) _ hB Tryd.underlying29 rfl sizeDd
  simp only [asAddr, Sem.run_pure, Result.andThen_ok, this]
/-- What is answered where a text is read. -/
def rdV (l : List UInt8) : Value := match rdD l with | some a => .tuple #[ddV a, .bool true] | none => .tuple #[ddV nilDd, .bool false]
def RdDPost (l : List UInt8) (w : World) (e : Ending) (w' : World) : Prop := e = .returned (rdV l) ∧ w.grownBy w' none
theorem rdV_some {l : List UInt8} {a : Dd} (h : rdD l = some a) : rdV l = .tuple #[ddV a, .bool true] := by unfold rdV; rw [h]
theorem rdV_none {l : List UInt8} (h : rdD l = none) : rdV l = .tuple #[ddV nilDd, .bool false] := by unfold rdV; rw [h]

theorem ErAt.past {w w' : World} {b : Nat} (h : ErAt w) (hg : w.grownBy w' (some b)) (hs : 2 ≠ b) (hr : 3 ≠ b) : ErAt w' := by
  obtain ⟨⟨a, b, h1⟩, ⟨c, d, h2⟩⟩ := h
  exact ⟨⟨a, b, (World.cell?_of_block (w := w) (hg.block _ (World.block_lt_of_cell? w _ h1) (by simpa using hs))).trans h1⟩, ⟨c, d, (World.cell?_of_block (w := w) (hg.block _ (World.block_lt_of_cell? w _ h2) (by simpa using hr))).trans h2⟩⟩
theorem WdAt.past {w w' : World} {b : Nat} (h : WdAt w) (hg : w.grownBy w' (some b)) (hb : 0 ≠ b) : WdAt w' :=
  ⟨Nat.lt_of_lt_of_le h.1 hg.size, fun i hi => (World.cell?_of_block (w := w) (hg.block _ h.1 (by simpa using hb))).trans (h.2 i hi)⟩
theorem ErAt.lt {w : World} (h : ErAt w) : 2 < w.heap.size ∧ 3 < w.heap.size := by
  obtain ⟨⟨a, b, h1⟩, ⟨c, d, h2⟩⟩ := h
  exact ⟨World.block_lt_of_cell? w _ h1, World.block_lt_of_cell? w _ h2⟩

/-- What lies where while a text is read: the answer's box, the deed's box. -/
def RdS (w W : World) (b : Nat) (u v x : Value) : Prop := CellsAt W w.heap.size #[.int .i64 0, .int .i64 0, .string ⟨#[]⟩] 29 ∧ CellsAt W b #[u, v, x] 29 ∧ WdAt W ∧ ErAt W ∧ w.grownBy W none ∧ w.heap.size < b ∧ WdAt w ∧ ErAt w
theorem RdS.new {w w1 : World} (hT : WdAt w) (hE : ErAt w) (hg : (w.alloc (.cells #[.int .i64 0, .int .i64 0, .string ⟨#[]⟩] 29)).grownBy w1 none) (u v x : Value) : RdS w (w1.alloc (.cells #[u, v, x] 29)) w1.heap.size u v x :=
  have g := grownBy_trans (grownBy_trans (World.grownBy_alloc _ _ none) hg) (World.grownBy_alloc w1 (.cells #[u, v, x] 29) none)
  have h1 := (CellsAt.new w #[.int .i64 0, .int .i64 0, .string ⟨#[]⟩] 29).grown hg
  ⟨h1.grown (World.grownBy_alloc _ _ none), CellsAt.new _ _ _, hT.grown g, hE.grown g, g, h1.lt, hT, hE⟩
theorem RdS.grown {w W W' : World} {b : Nat} {u v x : Value} (h : RdS w W b u v x) (g : W.grownBy W' none) : RdS w W' b u v x :=
  ⟨h.1.grown g, h.2.1.grown g, h.2.2.1.grown g, h.2.2.2.1.grown g, grownBy_trans h.2.2.2.2.1 g, h.2.2.2.2.2⟩
theorem RdS.set {w W : World} {b : Nat} {u v x : Value} (h : RdS w W b u v x) (y z : Value) : RdS w ((W.setCell ⟨b, 1, none⟩ y).setCell ⟨b, 2, none⟩ z) b u y z := by
  obtain ⟨h1, h2, h3, h4, h5, h6, h7, h8⟩ := h
  have l1 := h7.1
  have l2 := h8.lt
  have g1 := grownBy_set W b 1 y
  have g2 := grownBy_set (W.setCell ⟨b, 1, none⟩ y) b 2 z
  exact ⟨(h1.kept g1 (by simp; omega)).kept g2 (by simp; omega), (h2.set 1 y).set 2 z, (h3.past g1 (by omega)).past g2 (by omega), (h4.past g1 (by omega) (by omega)).past g2 (by omega) (by omega), grownBy_put (grownBy_put h5 (by omega) 1 y) (by omega) 2 z, h6, h7, h8⟩
theorem RdS.facts {w W : World} {b : Nat} {u v x : Value} (h : RdS w W b u v x) : ((W.cell? ⟨b, 0, none⟩ = some u ∧ W.cell? ⟨b, 1, none⟩ = some v ∧ W.cell? ⟨b, 2, none⟩ = some x) ∧ W.frozen? ⟨b, 0, none⟩ = false ∧ W.frozen? ⟨b, 1, none⟩ = false ∧ W.frozen? ⟨b, 2, none⟩ = false) ∧ (W.cell? ⟨w.heap.size, 0, none⟩ = some (.int .i64 0) ∧ W.cell? ⟨w.heap.size, 1, none⟩ = some (.int .i64 0) ∧ W.cell? ⟨w.heap.size, 2, none⟩ = some (.string ⟨#[]⟩)) ∧ W.frozen? ⟨w.heap.size, 0, none⟩ = false ∧ W.frozen? ⟨w.heap.size, 1, none⟩ = false ∧ W.frozen? ⟨w.heap.size, 2, none⟩ = false := ⟨set_facts h.2.1, set_facts h.1⟩
theorem RdS.fin {w W : World} {b : Nat} {u v x : Value} (h : RdS w W b u v x) (p q r : Value) : CellsAt (((W.setCell ⟨w.heap.size, 0, none⟩ p).setCell ⟨w.heap.size, 1, none⟩ q).setCell ⟨w.heap.size, 2, none⟩ r) w.heap.size #[p, q, r] 29 ∧ w.grownBy (((W.setCell ⟨w.heap.size, 0, none⟩ p).setCell ⟨w.heap.size, 1, none⟩ q).setCell ⟨w.heap.size, 2, none⟩ r) none :=
  ⟨h.1.put3 _ _ _, grownBy_put (grownBy_put (grownBy_put h.2.2.2.2.1 (Nat.le_refl _) 0 p) (Nat.le_refl _) 1 q) (Nat.le_refl _) 2 r⟩

set_option maxRecDepth 8000 in
set_option maxHeartbeats 4000000 in
theorem ird_nil (w : World) (hT : WdAt w) (hE : ErAt w) :
    Calls Tryd.prog 11 #[.string ⟨#[]⟩] w (RdDPost [] w) := by
  have cc := cut_any [] 32
  have ek : kindI (Lib.cut [] [32]).1 = -1 := by decide +kernel
  have hw := rdV_none (wrote_no (s := []) (.inl rfl))
  unfold RdDPost
  rw [hw]
  unfold CutD at cc
  unfold ddV nilDd
  have HT := Lib.hid hT
  have HE := Lib.hid hE
  clear hT hw hE
  go_enter Tryd.func11, Tryd.ntmps11
  go_wp2_with (first | (go_at_call 10; refine (cc _ (by decide)).mono ?_; rintro e w1 ⟨rfl, hg⟩; have hT1 := HT.out.grown (grownBy_trans (World.grownBy_alloc _ _ none) hg); have S0 := Lib.hid (RdS.new HT.out HE.out hg (.int .i64 (-1)) (.int .i64 0) (.string (bs (Lib.cut [] [32]).2.1))); obtain ⟨⟨⟨x0, x1, x2⟩, y0, y1, y2⟩, ⟨z0, z1, z2⟩, v0, v1, v2⟩ := S0.out.facts; clear hg) | (go_at_call 18; refine (kind_any _ _ hT1).mono ?_; rw [ek]; rintro e w2 ⟨rfl, rfl⟩))
  have E := S0.out.fin (.int .i64 0) (.int .i64 0) (.string ⟨#[]⟩)
  exact bodyPost_ret (resDdB rfl _ rfl rfl E.1) rfl ⟨rfl, E.2⟩

set_option maxRecDepth 8000 in
set_option maxHeartbeats 4000000 in
/-- Another word than a chain's. -/
theorem ird_word (l : List UInt8) (K : Int) (T B : List UInt8) (f : Bool) (w : World) (hT : WdAt w) (hE : ErAt w) (h0 : l ≠ []) (ht : (Lib.cut l [32]) = (T, B, f)) (hk : kindI T = K) (hK : K ≠ 0) (hl : l.length ≤ L48) :
    Calls Tryd.prog 11 #[.string (bs l)] w (RdDPost l w) := by
  have cc := cut_any l 32
  have hw : wroteA l = (K, 0, B) := by unfold wroteA; rw [ht, hk]; exact if_neg hK
  have he := empty_bs h0
  have hK0 : (K == 0) = false := beq_false_of_ne hK
  unfold CutD at cc
  rw [ht] at cc
  unfold RdDPost
  have HT := Lib.hid hT
  have HE := Lib.hid hE
  have HL := Lib.hid hl
  have HK := Lib.hid hk
  have ci := fun w hT => itx_any (K, 0, B) w hT
  unfold TxPost ddV at ci
  clear hT hE hl hk hK ht
  by_cases hx : txD (K, 0, B) = l
  · have hr := rdV_some (wrote_yes h0 (by rw [hw]; exact hx))
    rw [hw] at hr
    rw [hr]
    rw [hx] at ci
    unfold ddV
    clear hr hw hx h0
    go_enter Tryd.func11, Tryd.ntmps11
    go_wp2_with (first | (go_at_call 10; refine (cc _ HL.out).mono ?_; rintro e w1 ⟨rfl, hg⟩; have hT1 := HT.out.grown (grownBy_trans (World.grownBy_alloc _ _ none) hg); have S0 := Lib.hid (RdS.new HT.out HE.out hg (.int .i64 K) (.int .i64 0) (.string (bs B))); obtain ⟨⟨⟨x0, x1, x2⟩, y0, y1, y2⟩, ⟨z0, z1, z2⟩, v0, v1, v2⟩ := S0.out.facts; clear hg) | (go_at_call 18; refine (kind_any _ _ hT1).mono ?_; rw [HK.out]; rintro e w2 ⟨rfl, rfl⟩) | (go_at_call 20; refine (ci _ S0.out.2.2.1).mono ?_; rintro e w2 ⟨rfl, hg⟩; have S1 := Lib.hid (S0.out.grown hg); obtain ⟨⟨⟨p0, p1, p2⟩, q0, q1, q2⟩, ⟨r0, r1, r2⟩, s0, s1, s2⟩ := S1.out.facts; clear hg))
    have E := S1.out.fin (.int .i64 K) (.int .i64 0) (.string (bs B))
    exact bodyPost_ret (resDdB rfl _ rfl rfl E.1) rfl ⟨rfl, E.2⟩
  · have hr := rdV_none (wrote_no (s := l) (.inr (by rw [hw]; exact hx)))
    rw [hr]
    have hne := bs_ne hx
    rw [← toL_bs (txD (K, 0, B))] at hne
    generalize txD (K, 0, B) = X at *
    unfold ddV nilDd
    clear hr hw hx h0
    go_enter Tryd.func11, Tryd.ntmps11
    go_wp2_with (first | (go_at_call 10; refine (cc _ HL.out).mono ?_; rintro e w1 ⟨rfl, hg⟩; have hT1 := HT.out.grown (grownBy_trans (World.grownBy_alloc _ _ none) hg); have S0 := Lib.hid (RdS.new HT.out HE.out hg (.int .i64 K) (.int .i64 0) (.string (bs B))); obtain ⟨⟨⟨x0, x1, x2⟩, y0, y1, y2⟩, ⟨z0, z1, z2⟩, v0, v1, v2⟩ := S0.out.facts; clear hg) | (go_at_call 18; refine (kind_any _ _ hT1).mono ?_; rw [HK.out]; rintro e w2 ⟨rfl, rfl⟩) | (go_at_call 20; refine (ci _ S0.out.2.2.1).mono ?_; rintro e w2 ⟨rfl, hg⟩; have S1 := Lib.hid (S0.out.grown hg); obtain ⟨⟨⟨p0, p1, p2⟩, q0, q1, q2⟩, ⟨r0, r1, r2⟩, s0, s1, s2⟩ := S1.out.facts; clear hg))
    have E := S1.out.fin (.int .i64 0) (.int .i64 0) (.string ⟨#[]⟩)
    exact bodyPost_ret (resDdB rfl _ rfl rfl E.1) rfl ⟨rfl, E.2⟩

end Go.Proofs.YtlnffpofbfigaaaDoor

/-
  A deed's text read: impl's ReadDeed where the word is a chain's; and all.
-/
namespace Go.Proofs.YtlnffpofbfigaaaDoor
open Go.RowKit

set_option maxRecDepth 8000 in
set_option maxHeartbeats 4000000 in
theorem ird_chain (l : List UInt8) (T B : List UInt8) (f : Bool) (w : World) (hT : WdAt w) (hE : ErAt w) (h0 : l ≠ []) (ht : (Lib.cut l [32]) = (T, B, f)) (hk : kindI T = 0) (hl : l.length ≤ L48) :
    Calls Tryd.prog 11 #[.string (bs l)] w (RdDPost l w) := by
  have cc := cut_any l 32
  have hw : wroteA l = (0, numI B, []) := by unfold wroteA; rw [ht, hk]; exact if_pos rfl
  have he := empty_bs h0
  have hB : B.length ≤ L48 := by have := (cut_len l 32).2; rw [ht] at this; exact Nat.le_trans this hl
  have cn := fun w hE => num_any B hB w hE
  unfold NumC at cn
  unfold CutD at cc
  rw [ht] at cc
  unfold RdDPost
  have HT := Lib.hid hT
  have HE := Lib.hid hE
  have HL := Lib.hid hl
  have HK := Lib.hid hk
  have ci := fun w hT => itx_any (0, numI B, []) w hT
  unfold TxPost ddV at ci
  rw [show bs ([] : List UInt8) = ⟨#[]⟩ from rfl] at ci
  clear hT hE hl hk ht hB
  by_cases hx : txD (0, numI B, []) = l
  · have hr := rdV_some (wrote_yes h0 (by rw [hw]; exact hx))
    rw [hw] at hr
    rw [hr]
    rw [hx] at ci
    unfold ddV
    clear hr hw hx h0
    generalize numI B = V at *
    go_enter Tryd.func11, Tryd.ntmps11
    go_wp2_with (first | (go_at_call 10; refine (cc _ HL.out).mono ?_; rintro e w1 ⟨rfl, hg⟩; have hT1 := HT.out.grown (grownBy_trans (World.grownBy_alloc _ _ none) hg); have S0 := Lib.hid (RdS.new HT.out HE.out hg (.int .i64 0) (.int .i64 0) (.string (bs B))); obtain ⟨⟨⟨x0, x1, x2⟩, y0, y1, y2⟩, ⟨z0, z1, z2⟩, v0, v1, v2⟩ := S0.out.facts; clear hg) | (go_at_call 18; refine (kind_any _ _ hT1).mono ?_; rw [HK.out]; rintro e w2 ⟨rfl, rfl⟩) | (go_at_call 19; refine (cn _ S0.out.2.2.2.1).mono ?_; rintro e w2 ⟨rfl, hg⟩; have S1 := Lib.hid (S0.out.grown hg); obtain ⟨⟨⟨p0, p1, p2⟩, q0, q1, q2⟩, ⟨r0, r1, r2⟩, s0, s1, s2⟩ := S1.out.facts; have S2 := Lib.hid (S1.out.set (.int .i64 V) (.string ⟨#[]⟩)); obtain ⟨⟨⟨a0, a1, a2⟩, b0, b1, b2⟩, ⟨c0, c1, c2⟩, d0, d1, d2⟩ := S2.out.facts; clear hg) | (go_at_call 20; refine (ci _ S2.out.2.2.1).mono ?_; rintro e w3 ⟨rfl, hg⟩; have S3 := Lib.hid (S2.out.grown hg); obtain ⟨⟨⟨e0, e1, e2⟩, f0, f1, f2⟩, ⟨g0, g1, g2⟩, i0, i1, i2⟩ := S3.out.facts; clear hg))
    have E := S3.out.fin (.int .i64 0) (.int .i64 V) (.string ⟨#[]⟩)
    exact bodyPost_ret (resDdB rfl _ rfl rfl E.1) rfl ⟨rfl, E.2⟩
  · have hr := rdV_none (wrote_no (s := l) (.inr (by rw [hw]; exact hx)))
    rw [hr]
    have hne := bs_ne hx
    rw [← toL_bs (txD (0, numI B, []))] at hne
    generalize txD (0, numI B, []) = X at *
    unfold ddV nilDd
    clear hr hw hx h0
    generalize numI B = V at *
    go_enter Tryd.func11, Tryd.ntmps11
    go_wp2_with (first | (go_at_call 10; refine (cc _ HL.out).mono ?_; rintro e w1 ⟨rfl, hg⟩; have hT1 := HT.out.grown (grownBy_trans (World.grownBy_alloc _ _ none) hg); have S0 := Lib.hid (RdS.new HT.out HE.out hg (.int .i64 0) (.int .i64 0) (.string (bs B))); obtain ⟨⟨⟨x0, x1, x2⟩, y0, y1, y2⟩, ⟨z0, z1, z2⟩, v0, v1, v2⟩ := S0.out.facts; clear hg) | (go_at_call 18; refine (kind_any _ _ hT1).mono ?_; rw [HK.out]; rintro e w2 ⟨rfl, rfl⟩) | (go_at_call 19; refine (cn _ S0.out.2.2.2.1).mono ?_; rintro e w2 ⟨rfl, hg⟩; have S1 := Lib.hid (S0.out.grown hg); obtain ⟨⟨⟨p0, p1, p2⟩, q0, q1, q2⟩, ⟨r0, r1, r2⟩, s0, s1, s2⟩ := S1.out.facts; have S2 := Lib.hid (S1.out.set (.int .i64 V) (.string ⟨#[]⟩)); obtain ⟨⟨⟨a0, a1, a2⟩, b0, b1, b2⟩, ⟨c0, c1, c2⟩, d0, d1, d2⟩ := S2.out.facts; clear hg) | (go_at_call 20; refine (ci _ S2.out.2.2.1).mono ?_; rintro e w3 ⟨rfl, hg⟩; have S3 := Lib.hid (S2.out.grown hg); obtain ⟨⟨⟨e0, e1, e2⟩, f0, f1, f2⟩, ⟨g0, g1, g2⟩, i0, i1, i2⟩ := S3.out.facts; clear hg))
    have E := S3.out.fin (.int .i64 0) (.int .i64 0) (.string ⟨#[]⟩)
    exact bodyPost_ret (resDdB rfl _ rfl rfl E.1) rfl ⟨rfl, E.2⟩

theorem ird_any (l : List UInt8) (w : World) (hT : WdAt w) (hE : ErAt w) (hl : l.length ≤ L48) :
    Calls Tryd.prog 11 #[.string (bs l)] w (RdDPost l w) := by
  by_cases h0 : l = []
  · subst h0; exact ird_nil w hT hE
  · by_cases hk : kindI (Lib.cut l [32]).1 = 0
    · exact ird_chain l _ _ _ w hT hE h0 rfl hk hl
    · exact ird_word l _ _ _ _ w hT hE h0 rfl rfl hk hl

end Go.Proofs.YtlnffpofbfigaaaDoor

/-
  The walk of FnDeedText.
-/
namespace Go.Proofs.YtlnffpofbfigaaaDoor
open Go.RowKit

def DtxPost (w : World) (e : Ending) (w' : World) : Prop := ∃ D : Dd, e = .returned (ddV D) ∧ D.2.2.length ≤ 100 ∧ w.grownBy w' none

theorem tx_len (a : Dd) : (txD a).length ≤ 66 := by
  by_cases h : txD a = []
  · rw [h]; simp
  · have hh := told_of h
    generalize txD a = s at *
    cases hh with
    | chain k h => simp [chainW]
    | say t hf => have := isF_len hf; simp [sayW]; omega
    | times t hf => have := isF_len hf; simp [timesW']; omega
    | ifs t hf => have := isF_len hf; simp [ifW]; omega
    | nots => decide
    | basic => decide
    | back => decide
theorem itx_v (K N : Int) (T : List UInt8) (S : ByteArray) (h : bs (txD (K, N, T)) = S) (w : World) (hT : WdAt w) : Calls Tryd.prog 20 #[.agg #[.int .i64 K, .int .i64 N, .string (bs T)]] w fun e w' => e = .returned (.string S) ∧ w.grownBy w' none := by rw [← h]; exact itx_any (K, N, T) w hT
theorem stx_v (K N : Int) (T : List UInt8) (S : ByteArray) (h : bs (txD (K, N, T)) = S) (w : World) : Calls Tryd.prog 16 #[.agg #[.int .i64 K, .int .i64 N, .string (bs T)]] w fun e w' => e = .returned (.string S) ∧ w.grownBy w' none := by rw [← h]; exact stx_any (K, N, T) w
theorem ird_v (l : List UInt8) (v : Value) (h : rdV l = v) (w : World) (hT : WdAt w) (hE : ErAt w) (hl : l.length ≤ L48) : Calls Tryd.prog 11 #[.string (bs l)] w fun e w' => e = .returned v ∧ w.grownBy w' none := by rw [← h]; exact ird_any l w hT hE hl

end Go.Proofs.YtlnffpofbfigaaaDoor

/-
  Rows of deeds counted, copied and compared: the laws' szDeedS, toDeedS, eqDeedS.
-/
namespace Go.Proofs.YtlnffpofbfigaaaDoor
open Go.RowKit

theorem getDd_mem {xs : List Dd} {k : Nat} (h : k < xs.length) : xs.getD k nilDd ∈ xs := by
  rw [List.getD_eq_getElem?_getD, List.getElem?_eq_getElem h]
  exact List.getElem_mem h
/-- What szDeedS answers with: something below 0, or a number, few deeds and short texts. -/
def SzDPost (xs : List Dd) (w : World) (e : Ending) (w' : World) : Prop := ∃ v : Int, e = .returned (.int .i64 v) ∧ (v < 0 ∨ (0 ≤ v ∧ v ≤ 1048576 ∧ xs.length ≤ 1048576 ∧ ∀ x ∈ xs, x.2.2.length ≤ 1048576)) ∧ w.grownBy w' none
def SzDd (xs : List Dd) (w : World) (i left : Value) (wr : World) : Prop := ∃ (k : Nat) (l : Int), k ≤ xs.length ∧ i = .int .i64 k ∧ left = .int .i64 l ∧ 0 ≤ l ∧ l ≤ 1048576 ∧ (∀ j, j < k → (xs.getD j nilDd).2.2.length ≤ 1048576) ∧ w.grownBy wr none

def CpDd (g : Nat) (xs : List Dd) (w : World) (i : Value) (wr : World) : Prop :=
  ∃ (k : Nat) (vs : List Value), k ≤ xs.length ∧ i = .int .i64 k ∧ wr.ownsRow w.heap.size 29 3 (.slice (some ⟨g, 0, none⟩) xs.length xs.length) xs.length vs ∧ (∀ j, j < k → vs[j * 3]? = some (.int .i64 (xs.getD j nilDd).1) ∧ vs[j * 3 + 1]? = some (.int .i64 (xs.getD j nilDd).2.1) ∧ vs[j * 3 + 2]? = some (.string (bs (xs.getD j nilDd).2.2))) ∧ w.grownBy wr none
theorem own3_copied {g : Nat} {xs : List Dd} {w wr : World} {vs : List Value} (h : wr.ownsRow w.heap.size 29 3 (.slice (some ⟨g, 0, none⟩) xs.length xs.length) xs.length vs) (hx : ∀ j, j < xs.length → vs[j * 3]? = some (.int .i64 (xs.getD j nilDd).1) ∧ vs[j * 3 + 1]? = some (.int .i64 (xs.getD j nilDd).2.1) ∧ vs[j * 3 + 2]? = some (.string (bs (xs.getD j nilDd).2.2))) : Own3 wr w.heap.size (some ⟨g, 0, none⟩) xs.length xs := by
  have e : vs = ddC xs := by
    apply List.ext_getElem?
    intro j
    by_cases hj : j < xs.length * 3
    · have hk : j / 3 < xs.length := by omega
      have k1 := hx _ hk
      have k2 := ddC_at xs _ hk
      have hm : j % 3 = 0 ∨ j % 3 = 1 ∨ j % 3 = 2 := by omega
      rcases hm with q | q | q
      · rw [show j = j / 3 * 3 by omega, k1.1, k2.1]
      · rw [show j = j / 3 * 3 + 1 by omega, k1.2.1, k2.2.1]
      · rw [show j = j / 3 * 3 + 2 by omega, k1.2.2, k2.2.2]
    · rw [List.getElem?_eq_none (by rw [h.1]; omega), List.getElem?_eq_none (by rw [ddC_len]; omega)]
  unfold Own3
  rw [← e]
  exact h
theorem three_set {vs : List Value} {xs : List Dd} {k : Nat} (hl : vs.length = xs.length * 3) (hk : k < xs.length) (hxs : ∀ j, j < k → vs[j * 3]? = some (.int .i64 (xs.getD j nilDd).1) ∧ vs[j * 3 + 1]? = some (.int .i64 (xs.getD j nilDd).2.1) ∧ vs[j * 3 + 2]? = some (.string (bs (xs.getD j nilDd).2.2))) (m n : Int) (t : ByteArray) (hm : m = (xs.getD k nilDd).1) (hn : n = (xs.getD k nilDd).2.1) (ht : t = bs (xs.getD k nilDd).2.2) :
    ∀ j, j < k + 1 → (((vs.set (k * 3) (.int .i64 m)).set (k * 3 + 1) (.int .i64 n)).set (k * 3 + 2) (.string t))[j * 3]? = some (.int .i64 (xs.getD j nilDd).1) ∧ (((vs.set (k * 3) (.int .i64 m)).set (k * 3 + 1) (.int .i64 n)).set (k * 3 + 2) (.string t))[j * 3 + 1]? = some (.int .i64 (xs.getD j nilDd).2.1) ∧ (((vs.set (k * 3) (.int .i64 m)).set (k * 3 + 1) (.int .i64 n)).set (k * 3 + 2) (.string t))[j * 3 + 2]? = some (.string (bs (xs.getD j nilDd).2.2)) := by
  subst hm hn ht
  intro j hj
  by_cases e : j = k
  · subst e
    refine ⟨?_, ?_, ?_⟩
    · rw [List.getElem?_set_ne (by omega), List.getElem?_set_ne (by omega), List.getElem?_set_self (by omega)]
    · rw [List.getElem?_set_ne (by omega), List.getElem?_set_self (by rw [List.length_set]; omega)]
    · rw [List.getElem?_set_self (by rw [List.length_set, List.length_set]; omega)]
  · refine ⟨?_, ?_, ?_⟩
    · rw [List.getElem?_set_ne (by omega), List.getElem?_set_ne (by omega), List.getElem?_set_ne (by omega)]; exact (hxs j (by omega)).1
    · rw [List.getElem?_set_ne (by omega), List.getElem?_set_ne (by omega), List.getElem?_set_ne (by omega)]; exact (hxs j (by omega)).2.1
    · rw [List.getElem?_set_ne (by omega), List.getElem?_set_ne (by omega), List.getElem?_set_ne (by omega)]; exact (hxs j (by omega)).2.2

set_option maxHeartbeats 1000000 in
theorem eqDeed_yes (n k : Int) (t : ByteArray) (w : World) :
    Calls Tryd.prog 12 #[.agg #[.int .i64 n, .int .i64 k, .string t], .agg #[.int .i64 n, .int .i64 k, .string t]] w fun e w' => e = .returned (.bool true) ∧ w.grownBy w' none := by
  go_enter Tryd.func12, Tryd.ntmps12
  go_wp2
  go_ret
  exact ⟨rfl, grownBy_trans (World.grownBy_alloc _ _ none) (World.grownBy_alloc _ _ none)⟩

def EqRelD (xs : List Dd) (w : World) (i : Value) (wr : World) : Prop := ∃ k : Nat, k ≤ xs.length ∧ i = .int .i64 k ∧ w.grownBy wr none

set_option maxRecDepth 8000 in
set_option maxHeartbeats 2000000 in
theorem eqDeedS_yes (a b : Option Addr) (ca cb : Nat) (xs : List Dd) (w : World) (hx : DdsAt w a xs) (hy : DdsAt w b xs) :
    Calls Tryd.prog 6 #[.slice a xs.length ca, .slice b xs.length cb] w fun e w' => e = .returned (.bool true) ∧ w.grownBy w' none := by
  have hm := hx.1
  unfold maxLen at hm
  have HX := Lib.hid hx
  have HY := Lib.hid hy
  clear hx hy
  go_enter Tryd.func6, Tryd.ntmps6
  go_wp2
  go_loopw [5] (fun i wr => EqRelD xs w i wr) (fun i _ => xs.length - (intOf i).toNat)
  case atStart => exact ⟨0, by omega, rfl, grownBy_refl _ _⟩
  case round =>
    obtain ⟨k, hk, rfl, hgr⟩ := hrel
    have Hgr := Lib.hid hgr
    clear hgr
    by_cases hlt : k < xs.length
    · rcases (HX.out.grown Hgr.out).2 with h0 | ⟨bx, ox, rfl, _, hcx⟩
      · rw [h0] at hlt; simp at hlt
      rcases (HY.out.grown Hgr.out).2 with h0 | ⟨by', oy, rfl, _, hcy⟩
      · rw [h0] at hlt; simp at hlt
      obtain ⟨x0, x1, x2⟩ := hcx k hlt
      obtain ⟨y0, y1, y2⟩ := hcy k hlt
      clear hcx hcy
      generalize xs.getD k nilDd = q at *
      go_wp2_with fail
      go_region_with (go_at_call 12; refine (eqDeed_yes _ _ _ _).mono ?_; rintro e w' ⟨rfl, hg⟩)
      all_goals go_wp2_with fail
      all_goals go_roundw
      all_goals first | (simp [intOf]; omega) | exact ⟨k + 1, by omega, by go_num, grownBy_trans Hgr.out (drew_grown hg)⟩ | exact ⟨k + 1, by omega, by go_num, grownBy_trans Hgr.out (grownBy_trans (grownBy_drewN (grownBy_refl _ _) _) hg)⟩
    · obtain rfl : k = xs.length := by omega
      go_wp2
      go_ret
      exact ⟨rfl, Hgr.out⟩

end Go.Proofs.YtlnffpofbfigaaaDoor

/-
  Journals as texts: the model's.
-/
namespace Go.Proofs.YtlnffpofbfigaaaDoor
open Go.RowKit

theorem take_dd {xs : List Dd} {k : Nat} (hk : k < xs.length) : xs.take (k + 1) = xs.take k ++ [xs.getD k nilDd] := by
  rw [List.take_add_one, List.getD_eq_getElem?_getD]
  simp [hk]
theorem jB_snoc {l : List Dd} {a : Dd} (h : jB l = true) (ha : txD a ≠ []) : jB (l ++ [a]) = true := by
  unfold jB at *
  rw [List.all_append, h]
  cases e : txD a with
  | nil => exact absurd e ha
  | cons x y => simp [e]
theorem jL_len : ∀ l : List Dd, (jL l).length ≤ 67 * l.length
  | [] => by simp [jL]
  | a :: l => by
    have := jL_len l
    have := tx_len a
    simp only [jL, List.length_append, List.length_cons]
    omega
theorem jT_no {xs : List Dd} {k : Nat} (hk : k < xs.length) (h : txD (xs.getD k nilDd) = []) : jT xs = [] := by
  unfold jT
  rw [jB_no (getDd_mem hk) h]
  rfl
theorem jT_all {xs : List Dd} (h : jB xs = true) : jT xs = jL xs := if_pos h

def JtRel (xs : List Dd) (w : World) (kv ov : Value) (wr : World) : Prop :=
  ∃ k : Nat, k ≤ xs.length ∧ kv = .int .i64 k ∧ ov = .string (bs (jL (xs.take k))) ∧ jB (xs.take k) = true ∧ w.grownBy wr none
def JtPost (xs : List Dd) (w : World) (e : Ending) (w' : World) : Prop := e = .returned (.string (bs (jT xs))) ∧ w.grownBy w' none

end Go.Proofs.YtlnffpofbfigaaaDoor

/-
  The draws of chapter 12: deeds.
-/
namespace Go.Proofs.YtlnffpofbfigaaaDoor
open Go.RowKit

def DdsRel (w0 : World) (r P : Nat) (kv ov : Value) (wr : World) : Prop :=
  ∃ (j : Nat) (l : List Dd) (a : Option Addr) (cap : Nat), kv = .int .i64 j ∧ ov = .slice a l.length cap ∧ l.length + j ≤ 5 ∧ Own3 wr w0.heap.size a cap l ∧ (∃ g, a = some ⟨g, 0, none⟩) ∧ (∀ x ∈ l, x.2.2.length ≤ 100) ∧ Rd wr r (P + 501 - j * 100) ∧ w0.grownBy wr (some r)
def DdsDraw (r P : Nat) (w : World) (e : Ending) (w' : World) : Prop := ∃ (l : List Dd) (a : Option Addr) (cap : Nat), e = .returned (.slice a l.length cap) ∧ l.length ≤ 5 ∧ Own3 w' w.heap.size a cap l ∧ (∃ g, a = some ⟨g, 0, none⟩) ∧ (∀ x ∈ l, x.2.2.length ≤ 100) ∧ Rd w' r (P + 600) ∧ w.grownBy w' (some r)
theorem own3_more {w : World} {base : Nat} {v : Value} {xs : List Dd} {x : Dd} (h : w.ownsRow base 29 3 v (xs.length + 1) (ddC xs ++ ddC [x])) : ∃ a cap, v = .slice a (xs.length + 1) cap ∧ Own3 w base a cap (xs ++ [x]) := by
  rw [← ddC_app] at h
  obtain ⟨a, cap, e, hl, ho⟩ := own3_shape h
  have hx : (xs ++ [x]).length = xs.length + 1 := by simp
  rw [hx] at e
  exact ⟨a, cap, e, ho⟩
theorem ddC_news {W : World} {b : Nat} {D : Dd} (h : CellsAt W b #[.int .i64 D.1, .int .i64 D.2.1, .string (bs D.2.2)] 29) : ∀ j u, (ddC [D])[j]? = some u → W.cell? ((⟨b, 0, none⟩ : Addr).add j) = some u := by
  intro j u hu
  rw [add_none]
  match j, hu with
  | 0, hu => cases hu; exact h.cell rfl
  | 1, hu => cases hu; exact h.cell rfl
  | 2, hu => cases hu; exact h.cell rfl
theorem grown_own3 {w0 w w' : World} {r base : Nat} {a : Option Addr} {cap : Nat} {xs : List Dd} (g : w0.grownBy w (some r)) (o : Own3 w base a cap xs) (hb : w0.heap.size ≤ base) (hg : w.grownBy w' (Value.slice a xs.length cap).ownBlock) : w0.grownBy w' (some r) :=
  ⟨hg.os.trans g.os, hg.tape.trans g.tape, hg.output.trans g.output, Nat.le_trans g.size hg.size, fun k hk hn => (hg.block k (Nat.lt_of_lt_of_le hk g.size) (fun e => by have := World.ownsRow.lt o k e.symm; omega)).trans (g.block k hk hn)⟩
theorem rd_own3 {w w' : World} {r P base : Nat} {a : Option Addr} {cap : Nat} {xs : List Dd} (hr : Rd w r P) (o : Own3 w base a cap xs) (hb : r < base) (hg : w.grownBy w' (Value.slice a xs.length cap).ownBlock) : Rd w' r P :=
  hr.kept fun k hk => hg.block k (by have := hr.lt; omega) fun e => by have := World.ownsRow.lt o k e.symm; omega

theorem Own3.way {w : World} {base : Nat} {a : Option Addr} {cap : Nat} {zs : List Dd} (h : Own3 w base a cap zs) : (a = none ∧ zs = []) ∨ ∃ g, a = some ⟨g, 0, none⟩ := by
  rcases h.2 with ⟨h0, h1⟩ | ⟨g, c, cur, he, _⟩
  · simp only [Value.slice.injEq] at h0
    exact .inl ⟨h0.1, List.length_eq_zero_iff.1 h1⟩
  · simp only [Value.slice.injEq] at he
    exact .inr ⟨g, he.1⟩

end Go.Proofs.YtlnffpofbfigaaaDoor

/-
  The draw of a journal's deeds.
-/
namespace Go.Proofs.YtlnffpofbfigaaaDoor
open Go.RowKit

def WrRel (w0 : World) (gl r P : Nat) (l : List Dd) (kv ov : Value) (wr : World) : Prop :=
  ∃ (k : Nat) (m : List Dd) (g cap : Nat), k ≤ l.length ∧ kv = .int .i64 k ∧ ov = .slice (some ⟨g, 0, none⟩) m.length cap ∧ m.length ≤ k ∧ (Own3 wr w0.heap.size (some ⟨g, 0, none⟩) cap m ∧ g ≠ gl ∧ DdsAt wr (some ⟨gl, 0, none⟩) l ∧ gl < wr.heap.size ∧ (∀ x ∈ m, x.2.2.length ≤ 100) ∧ Rd wr r P ∧ w0.grownBy wr (some r))
/-- The same world, but for what is kept. -/
theorem wr_grown {w0 wr w2 : World} {gl r P g cap : Nat} {l m : List Dd} (h : Own3 wr w0.heap.size (some ⟨g, 0, none⟩) cap m ∧ g ≠ gl ∧ DdsAt wr (some ⟨gl, 0, none⟩) l ∧ gl < wr.heap.size ∧ (∀ x ∈ m, x.2.2.length ≤ 100) ∧ Rd wr r P ∧ w0.grownBy wr (some r)) (hg : wr.grownBy w2 none) :
    Own3 w2 w0.heap.size (some ⟨g, 0, none⟩) cap m ∧ g ≠ gl ∧ DdsAt w2 (some ⟨gl, 0, none⟩) l ∧ gl < w2.heap.size ∧ (∀ x ∈ m, x.2.2.length ≤ 100) ∧ Rd w2 r P ∧ w0.grownBy w2 (some r) :=
  ⟨h.1.kept hg, h.2.1, h.2.2.1.grown hg, Nat.lt_of_lt_of_le h.2.2.2.1 hg.size, h.2.2.2.2.1, h.2.2.2.2.2.1.grown hg, grownBy_trans h.2.2.2.2.2.2 (grown_none hg)⟩
theorem wr_next {w0 wr w2 : World} {gl r P g cap a4' cap4 : Nat} {l m : List Dd} {q : Dd} (h : Own3 wr w0.heap.size (some ⟨g, 0, none⟩) cap m ∧ g ≠ gl ∧ DdsAt wr (some ⟨gl, 0, none⟩) l ∧ gl < wr.heap.size ∧ (∀ x ∈ m, x.2.2.length ≤ 100) ∧ Rd wr r P ∧ w0.grownBy wr (some r)) (hq : q.2.2.length ≤ 100) (hr : r < w0.heap.size)
    (ho : Own3 w2 w0.heap.size (some ⟨a4', 0, none⟩) cap4 (m ++ [q])) (hg : wr.grownBy w2 (Value.slice (some ⟨g, 0, none⟩) m.length cap).ownBlock) (hat : (Value.slice (some ⟨a4', 0, none⟩) (m.length + 1) cap4).ownBlock = (Value.slice (some ⟨g, 0, none⟩) m.length cap).ownBlock ∨ (Value.slice (some ⟨a4', 0, none⟩) (m.length + 1) cap4).ownBlock = some wr.heap.size) :
    Own3 w2 w0.heap.size (some ⟨a4', 0, none⟩) cap4 (m ++ [q]) ∧ a4' ≠ gl ∧ DdsAt w2 (some ⟨gl, 0, none⟩) l ∧ gl < w2.heap.size ∧ (∀ x ∈ m ++ [q], x.2.2.length ≤ 100) ∧ Rd w2 r P ∧ w0.grownBy w2 (some r) := by
  obtain ⟨h1, h2, h3, h4, h5, h6, h7⟩ := h
  refine ⟨ho, ?_, h3.kept hg fun x hx e => ?_, Nat.lt_of_lt_of_le h4 hg.size, fun x hx => ?_, rd_own3 h6 h1 hr hg, grown_own3 h7 h1 (Nat.le_refl _) hg⟩
  · rcases hat with e | e
    · simp only [Value.ownBlock, Option.some.injEq] at e
      rw [e]; exact h2
    · simp only [Value.ownBlock, Option.some.injEq] at e
      rw [e]; exact fun k => absurd h4 (by omega)
  · cases hx
    simp only [Value.ownBlock, Option.some.injEq] at e
    exact h2 e.symm
  · rcases List.mem_append.1 hx with k | k
    · exact h5 x k
    · rw [List.mem_singleton] at k; rw [k]; exact hq

end Go.Proofs.YtlnffpofbfigaaaDoor

/-
  The draw of FnJournalText's deeds; the laws' sameDeeds at two rows of the same deeds.
-/
namespace Go.Proofs.YtlnffpofbfigaaaDoor
open Go.RowKit

def DjtPost (w : World) (e : Ending) (w' : World) : Prop := ∃ (m : List Dd) (a : Option Addr) (cap : Nat), e = .returned (.slice a m.length cap) ∧ m.length ≤ 6 ∧ Own3 w' w.heap.size a cap m ∧ w.grownBy w' none

def SddRel (xs : List Dd) (w : World) (i : Value) (wr : World) : Prop := ∃ k : Nat, k ≤ xs.length ∧ i = .int .i64 k ∧ w.grownBy wr none

end Go.Proofs.YtlnffpofbfigaaaDoor

/-
  A text parted at a byte, as the model parts it.
-/
namespace Go.Proofs.YtlnffpofbfigaaaDoor
open Go.RowKit

theorem infoTx : (Tryd.prog.info? 9).map (fun i => (i.zero, i.size, i.bytes)) = some (some (.string ⟨#[]⟩), 1, 16) := by kernel_rfl
theorem ext_bs (l : List UInt8) (f k : Nat) : (bs l).extract f k = bs ((l.drop f).take (k - f)) := by
  refine bl_inj ?_
  show ((bs l).extract f k).data.toList = _
  rw [bl_bs, ByteArray.data_extract, Array.toList_extract]
  show List.take (k - f) (List.drop f l) = _
  rfl
theorem txC_snoc (L : List (List UInt8)) (c : List UInt8) : (L.map fun x => Value.string (bs x)) ++ [Value.string (bs c)] = (L ++ [c]).map fun x => Value.string (bs x) := by simp
theorem onetx_news (w : World) (s : ByteArray) : ∀ j u, ([Value.string s] : List Value)[j]? = some u → (w.alloc (.cells #[.string s] 9)).cell? ((⟨w.heap.size, 0, none⟩ : Addr).add j) = some u := by
  intro j u hj
  match j, hj with
  | 0, hj => simp at hj; subst hj; simp [Addr.add]
theorem onetx_cell (s : ByteArray) : ∀ u ∈ ([Value.string s] : List Value), u.oneCell' = true := by intro u hu; simp at hu; subst hu; rfl
/-- What was parted so far, and what is left. -/
def CtRel (p : UInt8) (l : List UInt8) (w : World) (v fv kv : Value) (wr : World) : Prop :=
  ∃ (L : List (List UInt8)) (f k : Nat), f ≤ k ∧ k ≤ l.length ∧ fv = .int .i64 f ∧ kv = .int .i64 k ∧ L.length ≤ k ∧ cutL p l = L ++ cutG p ((l.drop f).take (k - f)) (l.drop k) ∧ wr.ownsRow w.heap.size 9 1 v L.length (L.map fun x => Value.string (bs x)) ∧ w.grownBy wr none

theorem grTx_row {a b c : World} {base : Nat} {v : Value} {n : Nat} {xs : List Value} {e : TypeId} (h : a.grownBy b none) (ho : b.ownsRow base e 1 v n xs) (hb : a.heap.size ≤ base) (k : b.grownBy c v.ownBlock) : a.grownBy c none :=
  ⟨k.os.trans h.os, k.tape.trans h.tape, k.output.trans h.output, Nat.le_trans h.size k.size, fun i hi hne => by
    refine (k.block i (Nat.lt_of_lt_of_le hi h.size) fun e => ?_).trans (h.block i hi hne)
    have := World.ownsRow.lt ho i e.symm
    omega⟩
/-- The texts as they lie. -/
def TxsAt (w : World) (a : Option Addr) (L : List (List UInt8)) : Prop := ∃ g, a = some ⟨g, 0, none⟩ ∧ ∀ i, i < L.length → w.cell? ⟨g, i, none⟩ = some (.string (bs (L.getD i [])))
theorem TxsAt.grown {w w' : World} {a : Option Addr} {L : List (List UInt8)} (h : TxsAt w a L) (hg : w.grownBy w' none) : TxsAt w' a L := by
  obtain ⟨g, ha, hc⟩ := h
  exact ⟨g, ha, fun i hi => (World.cell?_of_block (w := w) (hg.block _ (World.block_lt_of_cell? w _ (hc i hi)) (by simp))).trans (hc i hi)⟩
theorem own_txs {w : World} {base : Nat} {v : Value} {L : List (List UInt8)} (h : w.ownsRow base 9 1 v L.length (L.map fun x => Value.string (bs x))) (hL : 1 ≤ L.length) : ∃ a cap, v = .slice a L.length cap ∧ TxsAt w a L := by
  rcases h.2 with ⟨rfl, h0⟩ | ⟨g, cap, cur, rfl, hb, _, hlc, hcc, _⟩
  · omega
  · refine ⟨some ⟨g, 0, none⟩, cap, rfl, g, rfl, fun i hi => ?_⟩
    have := World.ownsRow.cellAt h i (by omega)
    rw [this]
    simp [List.getD_eq_getElem?_getD, hi]
def ScPost (p : UInt8) (l : List UInt8) (w : World) (e : Ending) (w' : World) : Prop := ∃ a cap, e = .returned (.slice a (cutL p l).length cap) ∧ TxsAt w' a (cutL p l) ∧ w.grownBy w' none

set_option maxRecDepth 100000 in
set_option maxHeartbeats 4000000 in
theorem scut_any (p : UInt8) (l : List UInt8) (hl : l.length ≤ 2097152) (w : World) :
    Calls Tryd.prog 14 #[.string (bs l), .int .u8 (p.toNat : Int)] w (ScPost p l w) := by
  have hz := bs_size l
  obtain ⟨i0, hi, hz0, hz1, hz2⟩ := info_parts infoTx
  have o1 := World.ownsRow_lit (e := 9) (size := 1) w #[] 0 (Nat.le_refl _) (by unfold maxLen; omega) rfl
  have g1 := World.grownBy_alloc w (.cells #[] 9) none
  go_enter Tryd.func14, Tryd.ntmps14
  go_wp2
  go_loopw [5, 6, 7] (fun v fv kv wr => CtRel p l w v fv kv wr) (fun _ _ kv _ => l.length - (intOf kv).toNat)
  case atStart => exact ⟨[], 0, 0, by omega, by omega, rfl, rfl, by simp, by simp [cutL], o1, g1⟩
  case round =>
    obtain ⟨L, f, k, hfk, hkl, rfl, rfl, hLk, hcut, hown, hgr⟩ := hrel
    have e9 := ext_bs l f k
    have hA := World.ownsRow.alloc hown (.cells #[.string ((bs l).extract f k)] 9)
    by_cases hlt : k < l.length
    · obtain ⟨c, r, hd⟩ : ∃ c r, l.drop k = c :: r := by
        cases hx : l.drop k with
        | nil => have := congrArg List.length hx; simp at this; omega
        | cons c r => exact ⟨c, r, rfl⟩
      have hidx := idx_run (s := bs l) (p := k) hd
      have hd1 : l.drop (k + 1) = r := by rw [← List.drop_drop, hd]; rfl
      have w1 : wrap64 ((k : Int) + 1) = (k : Int) + 1 := by unfold wrap64; omega
      by_cases hc : c = p
      · subst hc
        rw [hd, cutG_hit] at hcut
        have hcut2 : cutL c l = (L ++ [(l.drop f).take (k - f)]) ++ cutG c ((l.drop (k + 1)).take (k + 1 - (k + 1))) (l.drop (k + 1)) := by rw [hcut, hd1]; simp
        have HC := Lib.hid hcut2
        have HG := Lib.hid hgr
        have E9 := Lib.hid e9
        clear hcut hcut2 hd hd1 e9 hown hgr
        go_wp2_with (at_builtin; refine wpList_append_own _ rfl _ _ 36 rfl w.heap.size 9 i0 (.string ⟨#[]⟩) 1 16 Tryd.underlying36 hi hz0 hz1 hz2 rfl (by decide) _ _ _ rfl hA ⟨wr.heap.size, 0, none⟩ 1 1 [.string ((bs l).extract f k)] rfl rfl (onetx_news _ _) (onetx_cell _) ?c3 ?c4 ?c5 ?_)
        case c3 => unfold maxLen; omega
        case c4 => omega
        case c5 => have := HG.out.size; simp; omega
        intro v' w3 hown' hgrow _
        have G3 := Lib.hid (grTx_row (grownBy_trans HG.out (World.grownBy_alloc wr (.cells #[.string ((bs l).extract f k)] 9) none)) hA (Nat.le_refl _) hgrow)
        rw [E9.out, txC_snoc] at hown'
        rw [show L.length + 1 = (L ++ [(l.drop f).take (k - f)]).length by simp] at hown'
        have O3 := Lib.hid hown'
        clear hown' hgrow hA hidx
        go_wp2
        go_roundw
        case rel => exact ⟨L ++ [(l.drop f).take (k - f)], k + 1, k + 1, by omega, by omega, by go_num, by go_num, by simp; omega, HC.out, O3.out, G3.out⟩
        case measure => simp [intOf]; omega
      · have hne : ((c.toNat : Int) == (p.toNat : Int)) = false := beq_false_of_ne fun e => hc (UInt8.toNat_inj.1 (by exact_mod_cast e))
        have hne2 : ¬ (c.toNat = p.toNat) := fun e => hc (UInt8.toNat_inj.1 e)
        rw [hd, cutG_miss _ _ hc] at hcut
        have hcut2 : cutL p l = L ++ cutG p ((l.drop f).take (k + 1 - f)) (l.drop (k + 1)) := by
          rw [hcut, hd1, show k + 1 - f = (k - f) + 1 by omega, List.take_add_one]
          congr 2
          rw [List.getElem?_drop, show f + (k - f) = k by omega]
          have : l[k]? = some c := by have := congrArg (fun x => x[0]?) hd; simpa using this
          rw [this]; rfl
        have HC := Lib.hid hcut2
        have HG := Lib.hid hgr
        have HO := Lib.hid hown
        clear hcut hcut2 hd hd1 e9 hown hgr hA
        go_wp2
        go_roundw
        case rel => exact ⟨L, f, k + 1, by omega, by omega, rfl, by go_num, by omega, HC.out, HO.out, HG.out⟩
        case measure => simp [intOf]; omega
    · obtain rfl : k = l.length := by omega
      rw [List.drop_length, cutG_nil] at hcut
      have HC := Lib.hid hcut
      have HG := Lib.hid hgr
      have E9 := Lib.hid e9
      clear hcut e9 hown hgr
      go_wp2_with (at_builtin; refine wpList_append_own _ rfl _ _ 36 rfl w.heap.size 9 i0 (.string ⟨#[]⟩) 1 16 Tryd.underlying36 hi hz0 hz1 hz2 rfl (by decide) _ _ _ rfl hA ⟨wr.heap.size, 0, none⟩ 1 1 [.string ((bs l).extract f l.length)] rfl rfl (onetx_news _ _) (onetx_cell _) ?d3 ?d4 ?d5 ?_)
      case d3 => unfold maxLen; omega
      case d4 => omega
      case d5 => have := HG.out.size; simp; omega
      intro v' w3 hown' hgrow _
      have G3 := Lib.hid (grTx_row (grownBy_trans HG.out (World.grownBy_alloc wr (.cells #[.string ((bs l).extract f l.length)] 9) none)) hA (Nat.le_refl _) hgrow)
      rw [E9.out, txC_snoc, ← HC.out, show L.length + 1 = (cutL p l).length by rw [HC.out]; simp] at hown'
      obtain ⟨a, cap, rfl, hS⟩ := own_txs hown' (by rw [HC.out]; simp)
      clear hown' hgrow hA
      go_wp2
      go_ret
      exact ⟨a, cap, rfl, hS, G3.out⟩

end Go.Proofs.YtlnffpofbfigaaaDoor

/-
  A number's text read, as the model reads it.
-/
namespace Go.Proofs.YtlnffpofbfigaaaDoor
open Go.RowKit

/-- The number whose digits these are. -/
def valN : List UInt8 → Int → Int
  | [], n => n
  | c :: r, n => valN r (10 * n + digV c)
theorem valN_app : ∀ (l : List UInt8) (c : UInt8) (n : Int), valN (l ++ [c]) n = 10 * valN l n + digV c
  | [], _, _ => rfl
  | x :: l, c, n => by show valN (l ++ [c]) _ = _; rw [valN_app l c]; rfl
theorem take_snocB {l r : List UInt8} {c : UInt8} {k : Nat} (hd : l.drop k = c :: r) : l.take (k + 1) = l.take k ++ [c] := by
  rw [List.take_add_one]
  have : l[k]? = some c := by have := congrArg (fun x => x[0]?) hd; simpa using this
  rw [this]; rfl
theorem dig_done {l : List UInt8} (h1 : 1 ≤ l.length) (h2 : l.length ≤ 2) (hz : ¬ (1 < l.length ∧ l.getD 0 0 = 48)) (ha : ∀ c ∈ l, isD c = true) : digI l = valN l 0 := by
  match l, h1, h2, hz, ha with
  | [c], _, _, _, ha => rw [digI_one (ha c (by simp))]; show _ = 10 * 0 + digV c; omega
  | [c, d], _, _, hz, ha =>
    rw [digI_two (ha c (by simp)) (ha d (by simp)) (fun e => hz ⟨by simp, by simpa using e⟩)]
    show _ = 10 * (10 * 0 + digV c) + digV d
    omega
theorem dig_bad {l : List UInt8} {c : UInt8} (h2 : l.length ≤ 2) (hm : c ∈ l) (hc : isD c = false) : digI l = -1 := by
  match l, h2, hm with
  | [], _, hm => cases hm
  | [a], _, hm => rw [List.mem_singleton] at hm; subst hm; exact digI_one_no hc
  | [a, b], _, hm =>
    rcases List.mem_cons.1 hm with h | h
    · subst h; exact digI_two_no (.inl hc)
    · rw [List.mem_singleton] at h; subst h; exact digI_two_no (.inr (.inl hc))
theorem dig_zero {l : List UInt8} {r : List UInt8} (hd : l = 48 :: r) (hr : 1 < l.length) : digI l = -1 := by
  subst hd
  match r, hr with
  | [], hr => simp at hr
  | [d], _ => exact digI_two_no (.inr (.inr rfl))
  | d :: e :: r, _ => exact digI_long (by simp)

/-! The walks. -/
theorem digV_le (c : UInt8) (h : isD c = true) : 0 ≤ digV c ∧ digV c ≤ 9 := inB_of h
theorem isD_ways (c : UInt8) : (isD c = true ∧ ¬ (c.toNat : Int) < 48 ∧ ¬ 57 < (c.toNat : Int)) ∨ (isD c = false ∧ ((c.toNat : Int) < 48 ∨ (¬ (c.toNat : Int) < 48 ∧ 57 < (c.toNat : Int)))) := by
  by_cases g : (c.toNat : Int) < 48
  · exact .inr ⟨inB_f (by unfold digV; omega), .inl g⟩
  · by_cases g2 : 57 < (c.toNat : Int)
    · exact .inr ⟨inB_f (by unfold digV; omega), .inr ⟨g, g2⟩⟩
    · exact .inl ⟨inB_t (by unfold digV; omega), g, g2⟩
def DgRel1 (c : UInt8) (w : World) (nv kv : Value) (wr : World) : Prop := w = wr ∧ ((nv = .int .i64 0 ∧ kv = .int .i64 0) ∨ (isD c = true ∧ nv = .int .i64 ((c.toNat : Int) - 48) ∧ kv = .int .i64 1))
def DgRel2 (c d : UInt8) (w : World) (nv kv : Value) (wr : World) : Prop := w = wr ∧ ((nv = .int .i64 0 ∧ kv = .int .i64 0) ∨ (isD c = true ∧ nv = .int .i64 ((c.toNat : Int) - 48) ∧ kv = .int .i64 1) ∨ (isD c = true ∧ isD d = true ∧ nv = .int .i64 (10 * ((c.toNat : Int) - 48) + ((d.toNat : Int) - 48)) ∧ kv = .int .i64 2))
set_option maxRecDepth 8000 in
set_option maxHeartbeats 4000000 in
theorem sdig_1 (c : UInt8) (w : World) :
    Calls Tryd.prog 15 #[.string (bs [c])] w fun e w' => e = .returned (.int .i64 (digI [c])) ∧ w = w' := by
  have hz : (bs [c]).size = 1 := bs_size [c]
  have cn := in_any 1 1 2
  rw [show inB 1 1 2 = true from rfl] at cn
  have hidx0 : ∀ w : World, (Instr.index 9 (.string (bs [c])) (.int .i64 0)).run Tryd.prog w = .ok (.int .u8 (c.toNat : Int)) w := fun w => idx_run (s := bs [c]) (p := 0) (c := c) rfl w
  have hlt := c.toNat_lt
  obtain ⟨S, hS⟩ : ∃ S, bs [c] = S := ⟨_, rfl⟩
  rw [hS] at hz hidx0 ⊢
  clear hS
  go_enter Tryd.func15, Tryd.ntmps15
  go_wp2_with (first | (go_at_call 21; refine (cn _).mono ?_; rintro e w' ⟨rfl, rfl⟩))
  clear cn
  go_loopw [3, 4] (fun nv kv wr => DgRel1 c w nv kv wr) (fun _ kv _ => 1 - (intOf kv).toNat)
  case atStart => exact ⟨rfl, .inl ⟨rfl, rfl⟩⟩
  case round =>
    obtain ⟨rfl, hrel⟩ := hrel
    rcases hrel with ⟨rfl, rfl⟩ | ⟨hc, rfl, rfl⟩
    · rcases isD_ways c with ⟨hx, g1, g2⟩ | ⟨hx, g1 | ⟨g1, g2⟩⟩
      · have wx : IntKind.u8.wrap ((c.toNat : Int) - 48) = (c.toNat : Int) - 48 := by rw [IntKind.wrap_u8]; omega
        have wy : wrap64 ((c.toNat : Int) - 48) = (c.toNat : Int) - 48 := by unfold wrap64; omega
        go_wp2
        go_roundw
        case rel => exact ⟨rfl, .inr ⟨hx, by go_num, rfl⟩⟩
        case measure => simp [intOf]
      · go_wp2
        go_ret
        exact ⟨by rw [digI_one_no hx]; rfl, rfl⟩
      · go_wp2
        go_ret
        exact ⟨by rw [digI_one_no hx]; rfl, rfl⟩
    · go_wp2
      go_ret
      exact ⟨by rw [digI_one hc]; rfl, rfl⟩

set_option maxRecDepth 8000 in
set_option maxHeartbeats 4000000 in
theorem sdig_2 (c d : UInt8) (h48 : c ≠ 48) (w : World) :
    Calls Tryd.prog 15 #[.string (bs [c, d])] w fun e w' => e = .returned (.int .i64 (digI [c, d])) ∧ w = w' := by
  have hz : (bs [c, d]).size = 2 := bs_size [c, d]
  have cn := in_any 2 1 2
  rw [show inB 2 1 2 = true from rfl] at cn
  have hidx0 : ∀ w : World, (Instr.index 9 (.string (bs [c, d])) (.int .i64 0)).run Tryd.prog w = .ok (.int .u8 (c.toNat : Int)) w := fun w => idx_run (s := bs [c, d]) (p := 0) (c := c) rfl w
  have hidx1 : ∀ w : World, (Instr.index 9 (.string (bs [c, d])) (.int .i64 1)).run Tryd.prog w = .ok (.int .u8 (d.toNat : Int)) w := fun w => idx_run (s := bs [c, d]) (p := 1) (c := d) (r := []) rfl w
  have hne : ((c.toNat : Int) == 48) = false := beq_false_of_ne fun e => h48 (UInt8.toNat_inj.1 (by rw [show (48 : UInt8).toNat = 48 from rfl]; omega))
  have hlt := c.toNat_lt
  have hlt2 := d.toNat_lt
  obtain ⟨S, hS⟩ : ∃ S, bs [c, d] = S := ⟨_, rfl⟩
  rw [hS] at hz hidx0 hidx1 ⊢
  clear hS
  go_enter Tryd.func15, Tryd.ntmps15
  go_wp2_with (first | (go_at_call 21; refine (cn _).mono ?_; rintro e w' ⟨rfl, rfl⟩))
  clear cn
  go_loopw [3, 4] (fun nv kv wr => DgRel2 c d w nv kv wr) (fun _ kv _ => 2 - (intOf kv).toNat)
  case atStart => exact ⟨rfl, .inl ⟨rfl, rfl⟩⟩
  case round =>
    obtain ⟨rfl, hrel⟩ := hrel
    rcases hrel with ⟨rfl, rfl⟩ | ⟨hc, rfl, rfl⟩ | ⟨hc, hd, rfl, rfl⟩
    · rcases isD_ways c with ⟨hx, g1, g2⟩ | ⟨hx, g1 | ⟨g1, g2⟩⟩
      · have wx : IntKind.u8.wrap ((c.toNat : Int) - 48) = (c.toNat : Int) - 48 := by rw [IntKind.wrap_u8]; omega
        have wy : wrap64 ((c.toNat : Int) - 48) = (c.toNat : Int) - 48 := by unfold wrap64; omega
        go_wp2
        go_roundw
        case rel => exact ⟨rfl, .inr (.inl ⟨hx, by go_num, rfl⟩)⟩
        case measure => simp [intOf]
      · go_wp2
        go_ret
        exact ⟨by rw [digI_two_no (.inl hx)]; rfl, rfl⟩
      · go_wp2
        go_ret
        exact ⟨by rw [digI_two_no (.inl hx)]; rfl, rfl⟩
    · rcases isD_ways d with ⟨hx, g1, g2⟩ | ⟨hx, g1 | ⟨g1, g2⟩⟩
      · have wx : IntKind.u8.wrap ((d.toNat : Int) - 48) = (d.toNat : Int) - 48 := by rw [IntKind.wrap_u8]; omega
        have hcv := digV_le c hc
        unfold digV at hcv
        have wy : wrap64 (10 * ((c.toNat : Int) - 48)) = 10 * ((c.toNat : Int) - 48) := by unfold wrap64; omega
        have wz : wrap64 (10 * ((c.toNat : Int) - 48) + ((d.toNat : Int) - 48)) = 10 * ((c.toNat : Int) - 48) + ((d.toNat : Int) - 48) := by unfold wrap64; omega
        go_wp2
        go_roundw
        case rel => exact ⟨rfl, .inr (.inr ⟨hc, hx, by go_num, rfl⟩)⟩
        case measure => simp [intOf]
      · go_wp2
        go_ret
        exact ⟨by rw [digI_two_no (.inr (.inl hx))]; rfl, rfl⟩
      · go_wp2
        go_ret
        exact ⟨by rw [digI_two_no (.inr (.inl hx))]; rfl, rfl⟩
    · go_wp2
      go_ret
      exact ⟨by rw [digI_two hc hd h48]; rfl, rfl⟩

set_option maxHeartbeats 1000000 in
theorem sdig_zero (d : UInt8) (w : World) :
    Calls Tryd.prog 15 #[.string (bs [48, d])] w fun e w' => e = .returned (.int .i64 (digI [48, d])) ∧ w = w' := by
  have hz : (bs [48, d]).size = 2 := bs_size [48, d]
  have cn := in_any 2 1 2
  rw [show inB 2 1 2 = true from rfl] at cn
  have hidx0 : ∀ w : World, (Instr.index 9 (.string (bs [48, d])) (.int .i64 0)).run Tryd.prog w = .ok (.int .u8 48) w := fun w => idx_run (s := bs [48, d]) (p := 0) (c := 48) rfl w
  rw [digI_two_no (.inr (.inr rfl))]
  obtain ⟨S, hS⟩ : ∃ S, bs [48, d] = S := ⟨_, rfl⟩
  rw [hS] at hz hidx0 ⊢
  clear hS
  go_enter Tryd.func15, Tryd.ntmps15
  go_wp2_with (first | (go_at_call 21; refine (cn _).mono ?_; rintro e w' ⟨rfl, rfl⟩))
  go_ret
  exact ⟨rfl, rfl⟩
set_option maxHeartbeats 1000000 in
theorem sdig_len (l : List UInt8) (h : l = [] ∨ 2 < l.length) (hl : l.length ≤ 2097152) (w : World) :
    Calls Tryd.prog 15 #[.string (bs l)] w fun e w' => e = .returned (.int .i64 (digI l)) ∧ w = w' := by
  have hz := bs_size l
  have cn := in_any (l.length : Int) 1 2
  rw [show inB (l.length : Int) 1 2 = false from inB_f (by rcases h with rfl | h <;> simp <;> omega)] at cn
  rw [show digI l = -1 from by rcases h with rfl | h; exact digI_nil; exact digI_long h]
  clear h
  generalize bs l = S at *
  go_enter Tryd.func15, Tryd.ntmps15
  go_wp2_with (first | (go_at_call 21; refine (cn _).mono ?_; rintro e w' ⟨rfl, rfl⟩))
  go_ret
  exact ⟨rfl, rfl⟩
theorem sdig_any (l : List UInt8) (hl : l.length ≤ 2097152) (w : World) :
    Calls Tryd.prog 15 #[.string (bs l)] w fun e w' => e = .returned (.int .i64 (digI l)) ∧ w = w' := by
  match l, hl with
  | [], hl => exact sdig_len [] (.inl rfl) hl w
  | [c], _ => exact sdig_1 c w
  | [c, d], _ =>
    by_cases h : c = 48
    · subst h; exact sdig_zero d w
    · exact sdig_2 c d h w
  | c :: d :: e :: r, hl => exact sdig_len _ (.inr (by simp)) hl w

end Go.Proofs.YtlnffpofbfigaaaDoor

/-
  A deed's text read, as the model reads it.
-/
namespace Go.Proofs.YtlnffpofbfigaaaDoor
open Go.RowKit

theorem sct_any (l : List UInt8) (hl : l.length ≤ 2097152) (w : World) : Calls Tryd.prog 14 #[.string (bs l), .int .u8 32] w (ScPost 32 l w) := scut_any 32 l hl w
/-- What lies where while the model looks through its deeds. -/
def SrRel (l : List UInt8) (xs : List Dd) (w : World) (g0 : Nat) (kv : Value) (wr : World) : Prop := ∃ k : Nat, k ≤ xs.length ∧ kv = .int .i64 k ∧ (∀ j, j < k → txD (xs.getD j nilDd) ≠ l) ∧ CellsAt wr w.heap.size #[.int .i64 0, .int .i64 0, .string ⟨#[]⟩] 29 ∧ DdsAt wr (some ⟨g0, 0, none⟩) xs ∧ w.grownBy wr none
theorem all_none {l : List UInt8} {xs : List Dd} (h : ∀ j, j < xs.length → txD (xs.getD j nilDd) ≠ l) : ∀ a ∈ xs, txD a ≠ l := by
  intro a ha
  obtain ⟨j, hj, rfl⟩ := List.mem_iff_getElem.1 ha
  have := h j hj
  rwa [List.getD_eq_getElem?_getD, List.getElem?_eq_getElem hj] at this
theorem row_cells {w : World} {g k : Nat} {xs : List Dd} {K N : Int} {T : List UInt8} (h : DdsAt w (some ⟨g, 0, none⟩) xs) (hk : k < xs.length) (hq : xs.getD k nilDd = (K, N, T)) : w.cell? ⟨g, k * 3, none⟩ = some (.int .i64 K) ∧ w.cell? ⟨g, k * 3 + 1, none⟩ = some (.int .i64 N) ∧ w.cell? ⟨g, k * 3 + 2, none⟩ = some (.string (bs T)) := by
  rcases h.2 with h0 | ⟨b, off, ha, _, hc⟩
  · rw [h0] at hk; simp at hk
  · cases ha
    have := hc k hk
    rw [hq, Nat.zero_add] at this
    exact this
theorem cand_few {l : List UInt8} (h : (cutL 32 l).length ≠ 2) : candL l = cand3 := by
  unfold candL candT
  split
  · rename_i a b e; rw [e] at h; exact absurd rfl h
  · simp
theorem start_few {l : List UInt8} {w w1 : World} (hg : (w.alloc (.cells #[.int .i64 0, .int .i64 0, .string ⟨#[]⟩] 29)).grownBy w1 none) : SrRel l cand3 w w1.heap.size (.int .i64 0) (w1.alloc (.cells #[.int .i64 2, .int .i64 0, .string ⟨#[]⟩, .int .i64 5, .int .i64 0, .string ⟨#[]⟩, .int .i64 6, .int .i64 0, .string ⟨#[]⟩] 29)) :=
  have ga := World.grownBy_alloc w1 (.cells #[.int .i64 2, .int .i64 0, .string ⟨#[]⟩, .int .i64 5, .int .i64 0, .string ⟨#[]⟩, .int .i64 6, .int .i64 0, .string ⟨#[]⟩] 29) none
  ⟨0, by omega, rfl, fun j hj => absurd hj (by omega), ((CellsAt.new w _ _).grown hg).grown ga, Own3.at (base := w1.heap.size) (cap := 3) (World.ownsRow_lit (e := 29) (size := 3) w1 _ 3 (Nat.le_refl _) (by unfold maxLen; omega) rfl), grownBy_trans (grownBy_trans (World.grownBy_alloc _ _ none) hg) ga⟩

set_option maxRecDepth 8000 in
set_option maxHeartbeats 4000000 in
theorem srd_few (l : List UInt8) (hl : l.length ≤ 2097152) (h0 : l ≠ []) (hc : (cutL 32 l).length ≠ 2) (w : World) :
    Calls Tryd.prog 9 #[.string (bs l)] w (RdDPost l w) := by
  have cs := sct_any l hl
  have he := empty_bs h0
  unfold ScPost at cs
  have hc2 : (((cutL 32 l).length : Int) == 2) = false := beq_false_of_ne (by omega)
  have hcd := cand_few hc
  unfold RdDPost
  go_enter Tryd.func9, Tryd.ntmps9
  go_wp2_with (first | (go_at_call 14; refine (cs _).mono ?_; rintro e w1 ⟨a, cap, rfl, hS, hg⟩; have S0 := Lib.hid (start_few (l := l) hg)))
  obtain ⟨g0, hg0⟩ : ∃ g0, w1.heap.size = g0 := ⟨_, rfl⟩
  rw [hg0] at S0 ⊢
  generalize w1.alloc _ = W at *
  clear cs hc2 hg hS hg0 hc
  have SS := S0
  go_loopw [6] (fun kv wr => SrRel l cand3 w g0 kv wr) (fun kv _ => (cand3).length - (intOf kv).toNat)
  case atStart => exact SS.out
  case round =>
    obtain ⟨k, hk, rfl, hall, hB, hX, hgr⟩ := hrel
    have HB := Lib.hid hB
    have HX := Lib.hid hX
    have HG := Lib.hid hgr
    have HA := Lib.hid hall
    have hk3 : k ≤ 3 := hk
    by_cases hlt3 : k < 3
    · have hlt : k < (cand3).length := hlt3
      clear hX hB hgr hall
      generalize hq : (cand3).getD k nilDd = q at *
      obtain ⟨K, N, T⟩ := q
      obtain ⟨x0, x1, x2⟩ := row_cells HX.out hlt hq
      by_cases hx : txD (K, N, T) = l
      · have c2 := stx_v K N T _ (by rw [hx])
        have hr := rdV_some (cand_yes h0 hx)
        unfold ddV at hr
        go_wp2_with (first | (go_at_call 16; refine (c2 _).mono ?_; rintro e w3 ⟨rfl, g3⟩; have H3 := Lib.hid (HB.out.grown g3); obtain ⟨⟨y0, y1, y2⟩, z0, z1, z2⟩ := set_facts H3.out; obtain ⟨u0, u1, u2⟩ := row_cells (HX.out.grown g3) hlt hq))
        exact bodyPost_ret (v := .tuple #[.agg #[.int .i64 K, .int .i64 N, .string (bs T)], .bool true]) (resDdB rfl _ rfl rfl (H3.out.put3 _ _ _)) rfl ⟨by first | rfl | exact (congrArg Ending.returned hr).symm, put3_grown _ (grownBy_trans HG.out g3) (Nat.le_refl _) _ _ _⟩
      · have c2 := stx_v K N T _ rfl
        have hne := bs_ne hx
        rw [← toL_bs (txD (K, N, T))] at hne
        generalize bs (txD (K, N, T)) = X at *
        go_wp2_with (first | (go_at_call 16; refine (c2 _).mono ?_; rintro e w3 ⟨rfl, g3⟩))
        go_roundw
        case rel => exact ⟨k + 1, by omega, by go_num, fun j hj => by
          by_cases e : j = k
          · rw [e, hq]; exact hx
          · exact HA.out j (by omega), HB.out.grown g3, HX.out.grown g3, grownBy_trans HG.out g3⟩
        case measure => simp [intOf]; omega
    · obtain rfl : k = 3 := by omega
      have hr := rdV_none (cand_no (s := l) (.inr (by rw [hcd]; exact all_none HA.out)))
      unfold ddV nilDd at hr
      obtain ⟨⟨y0, y1, y2⟩, z0, z1, z2⟩ := set_facts HB.out
      clear hX hB hgr hall
      go_wp2
      exact bodyPost_ret (v := .tuple #[.agg #[.int .i64 0, .int .i64 0, .string ⟨#[]⟩], .bool false]) (resDdB rfl _ rfl rfl (HB.out.put3 _ _ _)) rfl ⟨by first | rfl | exact (congrArg Ending.returned hr).symm, put3_grown _ HG.out (Nat.le_refl _) _ _ _⟩

theorem cand_many {l A T : List UInt8} (h : cutL 32 l = [A, T]) : candL l = cand3 ++ [(0, digI T, []), (1, 0, T), (3, 0, T), (4, 0, T)] := by
  unfold candL; rw [h]; rfl
theorem news_dd {W : World} {b : Nat} {L : List Dd} (h : CellsAt W b (ddC L).toArray 29) : ∀ j u, (ddC L)[j]? = some u → W.drew.cell? ((⟨b, 0, none⟩ : Addr).add j) = some u := by
  intro j u hu
  rw [add_none, Nat.zero_add]
  exact h.cell (by rw [List.getElem?_toArray]; exact hu)
theorem grD_row {a b c : World} {g : Nat} (h : a.grownBy b none) (hb : a.heap.size ≤ g) (k : b.grownBy c (some g)) : a.grownBy c none :=
  ⟨k.os.trans h.os, k.tape.trans h.tape, k.output.trans h.output, Nat.le_trans h.size k.size, fun i hi hne => (k.block i (Nat.lt_of_lt_of_le hi h.size) (by simp; omega)).trans (h.block i hi hne)⟩
theorem start_many {l : List UInt8} {xs ys : List Dd} {w W W2 w3 : World} {g0 g9 : Nat} {kv : Value} (h : SrRel l xs w g0 kv W) (hd : DdsAt w3 (some ⟨g9, 0, none⟩) ys) (hgt : w.heap.size < g0) (hg : W.grownBy W2 none) (k : W2.grownBy w3 (some g0)) : SrRel l ys w g9 (.int .i64 0) w3 := by
  obtain ⟨_, _, _, _, hB, _, hgr⟩ := h
  exact ⟨0, by omega, rfl, fun j hj => absurd hj (by omega), (hB.grown hg).kept k (by simp; omega), hd, grD_row (grownBy_trans hgr hg) (by omega) k⟩
theorem cut_parts {l A T : List UInt8} {p : UInt8} (h : cutL p l = [A, T]) : T.length ≤ l.length := by
  have := cutL_join p l
  rw [h] at this
  have hl := congrArg List.length this
  simp [joinL] at hl
  omega
set_option maxRecDepth 8000 in
set_option maxHeartbeats 4000000 in
theorem srd_many (l A T : List UInt8) (hl : l.length ≤ 2097152) (h0 : l ≠ []) (hc : cutL 32 l = [A, T]) (w : World) :
    Calls Tryd.prog 9 #[.string (bs l)] w (RdDPost l w) := by
  have cs := sct_any l hl
  have he := empty_bs h0
  unfold ScPost at cs
  rw [hc] at cs
  have hcd := cand_many hc
  have cg := sdig_any T (Nat.le_trans (cut_parts hc) hl)
  obtain ⟨i0, hi, hz0, hz1, hz2⟩ := info_parts infoDd
  clear hc
  unfold RdDPost
  go_enter Tryd.func9, Tryd.ntmps9
  go_wp2_with fail
  refine (cs _).mono ?_
  rintro e w1 ⟨a, cap, rfl, hS, hg⟩
  have S0 := Lib.hid (start_few (l := l) hg)
  obtain ⟨g, rfl, hcx⟩ := hS.grown (World.grownBy_alloc w1 (.cells #[.int .i64 2, .int .i64 0, .string ⟨#[]⟩, .int .i64 5, .int .i64 0, .string ⟨#[]⟩, .int .i64 6, .int .i64 0, .string ⟨#[]⟩] 29) none)
  have t1 := hcx 1 (by simp)
  change _ = some (Value.string (bs T)) at t1
  have O0 := Lib.hid (show Own3 (w1.alloc (.cells #[.int .i64 2, .int .i64 0, .string ⟨#[]⟩, .int .i64 5, .int .i64 0, .string ⟨#[]⟩, .int .i64 6, .int .i64 0, .string ⟨#[]⟩] 29)) w1.heap.size (some ⟨w1.heap.size, 0, none⟩) 3 cand3 from World.ownsRow_lit (e := 29) (size := 3) w1 _ 3 (Nat.le_refl _) (by unfold maxLen; omega) rfl)
  have hgt : Hid (w.heap.size < w1.heap.size) := Lib.hid (by have := hg.size; simp at this; omega)
  clear hS hcx hg
  go_wp2_with fail
  obtain ⟨g0, hg0⟩ : ∃ g0, w1.heap.size = g0 := ⟨_, rfl⟩
  rw [hg0] at S0 O0 hgt ⊢
  have hlt0 : Hid (g0 < (w1.alloc (.cells #[.int .i64 2, .int .i64 0, .string ⟨#[]⟩, .int .i64 5, .int .i64 0, .string ⟨#[]⟩, .int .i64 6, .int .i64 0, .string ⟨#[]⟩] 29)).heap.size) := Lib.hid (by rw [← hg0]; simp)
  generalize w1.alloc _ = W at *
  clear cs hg0
  generalize digI T = V at *
  have HN := CellsAt.new W (ddC [(0, V, []), (1, 0, T), (3, 0, T), (4, 0, T)]).toArray 29
  have gx : W.grownBy (W.alloc (.cells (ddC [(0, V, []), (1, 0, T), (3, 0, T), (4, 0, T)]).toArray 29)).drew none := grownBy_drew (World.grownBy_alloc W _ none)
  obtain ⟨v', w3, hrun, hO, hgr, _⟩ := run_append_own (P := Tryd.prog) (w := (W.alloc (.cells (ddC [(0, V, []), (1, 0, T), (3, 0, T), (4, 0, T)]).toArray 29)).drew) g0 22 22 29 i0 (.agg #[.int .i64 0, .int .i64 0, .string ⟨#[]⟩]) 3 32 Tryd.underlying22 hi hz0 hz1 hz2 rfl (by decide) _ _ _ (O0.out.kept gx) ⟨W.heap.size, 0, none⟩ 4 4 (ddC [(0, V, []), (1, 0, T), (3, 0, T), (4, 0, T)]) rfl (news_dd HN) (ddC_one _) (by unfold maxLen; decide) (by decide) (by have := hlt0.out; have := gx.size; omega)
  rw [← ddC_app] at hO
  obtain ⟨a', cap', rfl, _, hO⟩ := own3_shape hO
  obtain ⟨g9, rfl⟩ := hO.way.resolve_left (by simp [cand3])
  have S9 := Lib.hid (start_many S0.out hO.at hgt.out (grownBy_trans gx (grownBy_refl _ _)) hgr)
  have hU2 := Lib.hid (show (W.alloc (.cells (ddC [(0, V, []), (1, 0, T), (3, 0, T), (4, 0, T)]).toArray 29)).drew.cell? ⟨g, 1, none⟩ = some (.string (bs T)) from (World.cell?_of_block (w := W) (gx.block _ (World.block_lt_of_cell? W _ t1) (by simp))).trans t1)
  have hgne : g ≠ g0 := fun e => by
    subst e
    have ho := World.ownsRow.cellAt (O0.out) 1 (by decide)
    rw [t1] at ho
    simp [cand3, ddC] at ho
  have hU3 := Lib.hid (show w3.cell? ⟨g, 1, none⟩ = some (.string (bs T)) from (World.cell?_of_block (hgr.block _ (World.block_lt_of_cell? _ _ hU2.out) (by simpa [Value.ownBlock] using hgne))).trans hU2.out)
  clear hO hgr HN gx hlt0 hgt S0 O0 hgne
  change (Builtin.append_ #[22, 22] 22 #[.slice (some ⟨g0, 0, none⟩) 3 3, .slice (some ⟨W.heap.size, 0, none⟩) 4 4]).run Tryd.prog (W.alloc (.cells #[.int .i64 0, .int .i64 V, .string ⟨#[]⟩, .int .i64 1, .int .i64 0, .string (bs T), .int .i64 3, .int .i64 0, .string (bs T), .int .i64 4, .int .i64 0, .string (bs T)] 29)).drew = .ok (.slice (some ⟨g9, 0, none⟩) 7 cap') w3 at hrun
  go_region_held_law (fun w' : World => w'.cell? ⟨g, 1, none⟩ = some (.string (bs T))) (first | exact t1 | exact hU2.out | exact hU3.out) (first | (go_at_call 15; refine (cg _).mono ?_; rintro e w2 ⟨rfl, rfl⟩) | (refine step_append_run (by rfl) _ _ _ (by rfl) (.slice (some ⟨g0, 0, none⟩) 3 3) (.slice (some ⟨W.heap.size, 0, none⟩) 4 4) (by rfl) (by rfl) (.slice (some ⟨g9, 0, none⟩) 7 cap') w3 hrun ?_))
  go_wp2_with fail
  have SS := S9
  clear hrun hO cg t1 hU2 hU3 S9
  go_loopw [6] (fun kv wr => SrRel l (cand3 ++ [(0, V, []), (1, 0, T), (3, 0, T), (4, 0, T)]) w g9 kv wr) (fun kv _ => ((cand3 ++ [(0, V, []), (1, 0, T), (3, 0, T), (4, 0, T)])).length - (intOf kv).toNat)
  case atStart => exact SS.out
  case round =>
    obtain ⟨k, hk, rfl, hall, hB, hX, hgr⟩ := hrel
    have HB := Lib.hid hB
    have HX := Lib.hid hX
    have HG := Lib.hid hgr
    have HA := Lib.hid hall
    have hk3 : k ≤ 7 := hk
    by_cases hlt3 : k < 7
    · have hlt : k < ((cand3 ++ [(0, V, []), (1, 0, T), (3, 0, T), (4, 0, T)])).length := hlt3
      clear hX hB hgr hall
      generalize hq : ((cand3 ++ [(0, V, []), (1, 0, T), (3, 0, T), (4, 0, T)])).getD k nilDd = q at *
      obtain ⟨K, N, T⟩ := q
      obtain ⟨x0, x1, x2⟩ := row_cells HX.out hlt hq
      by_cases hx : txD (K, N, T) = l
      · have c2 := stx_v K N T _ (by rw [hx])
        have hr := rdV_some (cand_yes h0 hx)
        unfold ddV at hr
        go_wp2_with (first | (go_at_call 16; refine (c2 _).mono ?_; rintro e w3 ⟨rfl, g3⟩; have H3 := Lib.hid (HB.out.grown g3); obtain ⟨⟨y0, y1, y2⟩, z0, z1, z2⟩ := set_facts H3.out; obtain ⟨u0, u1, u2⟩ := row_cells (HX.out.grown g3) hlt hq))
        exact bodyPost_ret (v := .tuple #[.agg #[.int .i64 K, .int .i64 N, .string (bs T)], .bool true]) (resDdB rfl _ rfl rfl (H3.out.put3 _ _ _)) rfl ⟨by first | rfl | exact (congrArg Ending.returned hr).symm, put3_grown _ (grownBy_trans HG.out g3) (Nat.le_refl _) _ _ _⟩
      · have c2 := stx_v K N T _ rfl
        have hne := bs_ne hx
        rw [← toL_bs (txD (K, N, T))] at hne
        generalize bs (txD (K, N, T)) = X at *
        go_wp2_with (first | (go_at_call 16; refine (c2 _).mono ?_; rintro e w3 ⟨rfl, g3⟩))
        go_roundw
        case rel => exact ⟨k + 1, by omega, by go_num, fun j hj => by
          by_cases e : j = k
          · rw [e, hq]; exact hx
          · exact HA.out j (by omega), HB.out.grown g3, HX.out.grown g3, grownBy_trans HG.out g3⟩
        case measure => simp [intOf]; omega
    · obtain rfl : k = 7 := by omega
      have hr := rdV_none (cand_no (s := l) (.inr (by rw [hcd]; exact all_none HA.out)))
      unfold ddV nilDd at hr
      obtain ⟨⟨y0, y1, y2⟩, z0, z1, z2⟩ := set_facts HB.out
      clear hX hB hgr hall
      go_wp2
      exact bodyPost_ret (v := .tuple #[.agg #[.int .i64 0, .int .i64 0, .string ⟨#[]⟩], .bool false]) (resDdB rfl _ rfl rfl (HB.out.put3 _ _ _)) rfl ⟨by first | rfl | exact (congrArg Ending.returned hr).symm, put3_grown _ HG.out (Nat.le_refl _) _ _ _⟩

set_option maxRecDepth 8000 in
set_option maxHeartbeats 4000000 in
theorem srd_nil (w : World) : Calls Tryd.prog 9 #[.string ⟨#[]⟩] w (RdDPost [] w) := by
  have cs := sct_any [] (by decide)
  unfold ScPost at cs
  have hr := rdV_none (cand_no (s := []) (.inl rfl))
  unfold ddV nilDd at hr
  unfold RdDPost
  rw [hr]
  go_enter Tryd.func9, Tryd.ntmps9
  go_wp2_with fail
  refine (cs _).mono ?_
  rintro e w1 ⟨a, cap, rfl, hS, hg⟩
  have S0 := Lib.hid (start_few (l := []) hg)
  clear hS cs
  have e1 : (cutL 32 []).length = 1 := rfl
  rw [e1]
  go_wp2_with fail
  obtain ⟨g0, hg0⟩ : ∃ g0, w1.heap.size = g0 := ⟨_, rfl⟩
  rw [hg0] at S0 ⊢
  generalize w1.alloc _ = W at *
  clear hg hg0
  go_loopw [6] (fun kv wr => (∃ k : Nat, k ≤ 3 ∧ kv = .int .i64 k) ∧ wr = W) (fun kv _ => 3 - (intOf kv).toNat)
  case atStart => exact ⟨⟨0, by omega, rfl⟩, rfl⟩
  case round =>
    obtain ⟨⟨k, hk, rfl⟩, rfl⟩ := hrel
    by_cases hlt : k < 3
    · go_wp2
      go_roundw
      case rel => exact ⟨⟨k + 1, by omega, by go_num⟩, by first | rfl | trivial⟩
      case measure => simp [intOf]; omega
    · obtain rfl : k = 3 := by omega
      have HB := Lib.hid S0.out.choose_spec.2.2.2.1
      have HG := Lib.hid S0.out.choose_spec.2.2.2.2.2
      obtain ⟨⟨y0, y1, y2⟩, z0, z1, z2⟩ := set_facts HB.out
      go_wp2
      exact bodyPost_ret (v := .tuple #[.agg #[.int .i64 0, .int .i64 0, .string ⟨#[]⟩], .bool false]) (resDdB rfl _ rfl rfl (HB.out.put3 _ _ _)) rfl ⟨rfl, put3_grown _ HG.out (Nat.le_refl _) _ _ _⟩
theorem srd_any (l : List UInt8) (hl : l.length ≤ 2097152) (w : World) : Calls Tryd.prog 9 #[.string (bs l)] w (RdDPost l w) := by
  by_cases h0 : l = []
  · subst h0; exact srd_nil w
  · by_cases hc : (cutL 32 l).length = 2
    · match hq : cutL 32 l, hc with
      | [A, T], _ => exact srd_many l A T hl h0 hq w
    · exact srd_few l hl h0 hc w

end Go.Proofs.YtlnffpofbfigaaaDoor

/-
  The walk of FnExactReadDeed.
-/
namespace Go.Proofs.YtlnffpofbfigaaaDoor
open Go.RowKit

theorem srd_v (l : List UInt8) (v : Value) (h : rdV l = v) (w : World) (hl : l.length ≤ 2097152) : Calls Tryd.prog 9 #[.string (bs l)] w fun e w' => e = .returned v ∧ w.grownBy w' none := by rw [← h]; exact srd_any l hl w
theorem rdV_ways (l : List UInt8) : ∃ (K N : Int) (T : List UInt8) (b : Bool), rdV l = .tuple #[.agg #[.int .i64 K, .int .i64 N, .string (bs T)], .bool b] := by
  cases h : rdD l with
  | none => exact ⟨0, 0, [], false, rdV_none h⟩
  | some a => exact ⟨a.1, a.2.1, a.2.2, true, rdV_some h⟩
end Go.Proofs.YtlnffpofbfigaaaDoor

/-
  Journals read: the landed code's.
-/
namespace Go.Proofs.YtlnffpofbfigaaaDoor
open Go.RowKit

def strLen : Value → Nat
  | .string s => s.size
  | _ => 0
theorem cut_v (l : List UInt8) (c : UInt8) (T B : List UInt8) (f : Bool) (h : Lib.cut l [c] = (T, B, f)) (w : World) (hl : l.length ≤ L48) :
    Calls Tryd.prog 10 #[.string (bs l), .string ⟨#[c]⟩] w fun e w' => e = .returned (.tuple #[.string (bs T), .string (bs B), .bool f]) ∧ w.grownBy w' none := by
  have hh := cut_any l c w hl
  unfold CutD at hh
  rw [h] at hh
  exact hh
def RjR (l : List UInt8) (w : World) (m : List Dd) (a : Option Addr) (cap n : Nat) (rs : List UInt8) (wr : World) : Prop :=
  n + rs.length = l.length ∧ rdJ l = (m ++ (rdJ rs).1, n + (rdJ rs).2) ∧ m.length ≤ n ∧ Own3 wr w.heap.size a cap m ∧ w.grownBy wr none
def RjRel (l : List UInt8) (w : World) (lv rv : Value) (wr : World) : Prop :=
  ∃ (m : List Dd) (a : Option Addr) (cap n : Nat) (rs : List UInt8), lv = .slice a m.length cap ∧ rv = .string (bs rs) ∧ RjR l w m a cap n rs wr
def RjPost (l : List UInt8) (w : World) (e : Ending) (w' : World) : Prop :=
  ∃ (a : Option Addr) (cap : Nat), e = .returned (.tuple #[.slice a (rdJ l).1.length cap, .int .i64 ((rdJ l).2 : Nat)]) ∧ Own3 w' w.heap.size a cap (rdJ l).1 ∧ w.grownBy w' none
theorem RjR.grown {l rs : List UInt8} {w wr w' : World} {m : List Dd} {a : Option Addr} {cap n : Nat} (h : RjR l w m a cap n rs wr) (g : wr.grownBy w' none) : RjR l w m a cap n rs w' :=
  ⟨h.1, h.2.1, h.2.2.1, h.2.2.2.1.kept g, grownBy_trans h.2.2.2.2 g⟩
theorem RjR.fin {l rs : List UInt8} {w wr : World} {m : List Dd} {a : Option Addr} {cap n : Nat} (h : RjR l w m a cap n rs wr) (k : rdJ rs = ([], 0)) : RjPost l w (.returned (.tuple #[.slice a m.length cap, .int .i64 (n : Nat)])) wr := by
  obtain ⟨_, h2, _, h4, h5⟩ := h
  rw [k] at h2
  simp only [List.append_nil, Nat.add_zero] at h2
  unfold RjPost
  rw [h2]
  exact ⟨a, cap, rfl, h4, h5⟩
theorem rj_wrap {l : List UInt8} {w wr : World} {v : Value} {x : Int} {n : Nat} (h : x = (n : Int)) (k : RjPost l w (.returned (.tuple #[v, .int .i64 (n : Nat)])) wr) : RjPost l w (.returned (.tuple #[v, .int .i64 x])) wr := by rw [h]; exact k
theorem RjR.next {l t r : List UInt8} {w wr : World} {m : List Dd} {a a' : Option Addr} {cap cap' n : Nat} {D : Dd} {w' : World} (h : RjR l w m a cap n (t ++ 10 :: r) wr) (ht : ∀ d ∈ t, d ≠ (10 : UInt8)) (k : rdD t = some D) (ho : Own3 w' w.heap.size a' cap' (m ++ [D])) (hg : w.grownBy w' none) : RjR l w (m ++ [D]) a' cap' (n + (t.length + 1)) r w' := by
  obtain ⟨h1, h2, h3, _, _⟩ := h
  rw [j_yes r ht k] at h2
  refine ⟨by simp at h1; omega, ?_, by simp; omega, ho, hg⟩
  rw [h2, List.append_assoc]
  simp only [List.singleton_append, Prod.mk.injEq, true_and]
  omega

set_option maxRecDepth 8000 in
set_option maxHeartbeats 4000000 in
theorem irj_any (l : List UInt8) (hl : l.length ≤ 1099511627776) (w : World) (hT : WdAt w) (hE : ErAt w) :
    Calls Tryd.prog 5 #[.string (bs l)] w (RjPost l w) := by
  have HT := Lib.hid hT
  have HE := Lib.hid hE
  have HL := Lib.hid hl
  clear hT hE hl
  obtain ⟨i0, hi, hz0, hz1, hz2⟩ := info_parts infoDd
  obtain ⟨s, hs⟩ : ∃ s, s = bs l := ⟨_, rfl⟩
  have HSz := Lib.hid (show s.size = l.length by rw [hs, bs_size])
  have HS := Lib.hid hs
  rw [← hs]
  clear hs
  go_enter Tryd.func5, Tryd.ntmps5
  go_wp2_with fail
  go_loopw [4, 5] (fun lv rv wr => RjRel l w lv rv wr) (fun _ rv _ => strLen rv)
  case atStart => exact ⟨[], none, 0, 0, l, rfl, by rw [HS.out], by omega, by simp, by simp, Own3.nil _ _, grownBy_refl _ _⟩
  case round =>
    obtain ⟨m, a, cap, n, rs, rfl, rfl, hR⟩ := hrel
    have HR := Lib.hid hR
    have hn := hR.1
    have hmn := Lib.hid hR.2.2.1
    have HN := Lib.hid hn
    have hRL : Hid (rs.length ≤ L48) := Lib.hid (by have := HL.out; unfold L48; omega)
    clear hR
    obtain ⟨R, hRr⟩ : ∃ R, R = bs rs := ⟨_, rfl⟩
    have HRr := Lib.hid hRr
    have HRs := Lib.hid (show R.size = rs.length by rw [hRr, bs_size])
    have hw : wrap64 ((s.size : Int) - (R.size : Int)) = (n : Int) := by rw [HSz.out, HRs.out]; have := HL.out; unfold wrap64; omega
    rcases cut_ways 10 rs with hmiss | ⟨t, r, e, ht⟩
    · have cc := fun w => cut_v rs 10 _ _ _ (cut_miss hmiss) w hRL.out
      obtain ⟨K, N, T, b, hv⟩ := rdV_ways rs
      have cd := fun w hT hE => ird_v rs _ hv w hT hE hRL.out
      rw [← hRr] at cc cd ⊢
      rw [show bs ([] : List UInt8) = ⟨#[]⟩ from rfl] at cc
      have hfin := Lib.hid (j_miss hmiss)
      clear hmiss hv hRr hn
      have HR1 := Lib.hid (fun w1 (g : wr.grownBy w1 none) => HR.out.grown g)
      go_wp2_with fail
      refine (cc _).mono ?_
      rintro e w1 ⟨rfl, g1⟩
      have G1 := Lib.hid g1
      clear g1 cc
      go_wp2_with fail
      refine (cd _ (HT.out.grown (HR.out.grown G1.out).2.2.2.2) (HE.out.grown (HR.out.grown G1.out).2.2.2.2)).mono ?_
      rintro e w2 ⟨rfl, g2⟩
      have G2 := Lib.hid (grownBy_trans (grownBy_trans G1.out g2) (World.grownBy_alloc w2 (.cells #[.int .i64 K, .int .i64 N, .string (bs T)] 29) none))
      clear g2 cd
      go_wp2_with fail
      refine bodyPost_ret (results_tmp2 rfl _ _ _) rfl ?_
      exact rj_wrap hw ((HR.out.grown G2.out).fin hfin.out)
    · subst e
      have ecut := cut_hit r ht
      have cc := fun w => cut_v (t ++ 10 :: r) 10 _ _ _ ecut w hRL.out
      have hlt : t.length ≤ L48 := by have := hRL.out; simp at this; omega
      cases hq : rdD t with
      | none =>
        have cd := fun w hT hE => ird_v t _ (rdV_none hq) w hT hE hlt
        rw [← hRr] at cc ⊢
        unfold ddV nilDd at cd
        rw [show bs ([] : List UInt8) = ⟨#[]⟩ from rfl] at cd
        have hfin := Lib.hid (j_no r ht hq)
        clear hq hRr hn ht ecut hlt
        generalize bs t = U at *
        generalize bs r = V at *
        go_wp2_with fail
        refine (cc _).mono ?_
        rintro e w1 ⟨rfl, g1⟩
        have G1 := Lib.hid g1
        clear g1 cc
        go_wp2_with fail
        refine (cd _ (HT.out.grown (HR.out.grown G1.out).2.2.2.2) (HE.out.grown (HR.out.grown G1.out).2.2.2.2)).mono ?_
        rintro e w2 ⟨rfl, g2⟩
        have G2 := Lib.hid (grownBy_trans (grownBy_trans G1.out g2) (World.grownBy_alloc w2 (.cells #[.int .i64 0, .int .i64 0, .string ⟨#[]⟩] 29) none))
        clear g2 cd
        go_wp2_with fail
        refine bodyPost_ret (results_tmp2 rfl _ _ _) rfl ?_
        exact rj_wrap hw ((HR.out.grown G2.out).fin hfin.out)
      | some D =>
        obtain ⟨K, N, T⟩ := D
        have cd := fun w hT hE => ird_v t _ (rdV_some hq) w hT hE hlt
        rw [← hRr] at cc ⊢
        unfold ddV at cd
        have HTn := Lib.hid ht
        have HQ := Lib.hid hq
        obtain ⟨V, hV⟩ : ∃ V, V = bs r := ⟨_, rfl⟩
        have HV := Lib.hid hV
        have hVs : Hid (V.size < R.size) := Lib.hid (by rw [hV, bs_size, HRs.out]; simp; omega)
        rw [← hV] at cc
        clear hq hRr hn ht ecut hlt hV
        generalize bs t = U at *
        go_wp2_with fail
        refine (cc _).mono ?_
        rintro e w1 ⟨rfl, g1⟩
        have G1 := Lib.hid g1
        clear g1 cc
        go_wp2_with fail
        refine (cd _ (HT.out.grown (HR.out.grown G1.out).2.2.2.2) (HE.out.grown (HR.out.grown G1.out).2.2.2.2)).mono ?_
        rintro e w2 ⟨rfl, g2⟩
        have gA := World.grownBy_alloc w2 (.cells #[.int .i64 K, .int .i64 N, .string (bs T)] 29) none
        have gB := World.grownBy_alloc (w2.alloc (.cells #[.int .i64 K, .int .i64 N, .string (bs T)] 29)) (.cells #[.int .i64 K, .int .i64 N, .string (bs T)] 29) none
        have HR2 := Lib.hid (HR.out.grown (grownBy_trans (grownBy_trans (grownBy_trans G1.out g2) gA) gB))
        have HN2 := Lib.hid (CellsAt.second w2 (.cells #[.int .i64 K, .int .i64 N, .string (bs T)] 29) #[.int .i64 K, .int .i64 N, .string (bs T)] 29)
        have hsz := HR2.out.2.2.2.2.size
        have hm1 : m.length + 1 ≤ 1099511627777 := by have := hmn.out; have := HN.out; have := HL.out; omega
        clear g2 cd gA gB
        go_wp2_with (at_builtin; refine wpList_append_own _ rfl _ _ 22 rfl w.heap.size 29 i0 (.agg #[.int .i64 0, .int .i64 0, .string ⟨#[]⟩]) 3 32 Tryd.underlying22 hi hz0 hz1 hz2 rfl (by decide) _ _ _ rfl HR2.out.2.2.2.1 ⟨w2.heap.size + 1, 0, none⟩ 1 1 (ddC [(K, N, T)]) rfl rfl (ddC_news HN2.out) (ddC_one [(K, N, T)]) (by unfold maxLen; omega) (by omega) hsz ?_; intro v' w4 hown' hgrow _; obtain ⟨a4, cap4, rfl, ho4⟩ := own3_more hown'; have HR4 := Lib.hid (HR2.out.next HTn.out HQ.out ho4 (grow_own3 HR2.out.2.2.2.2 HR2.out.2.2.2.1 (Nat.le_refl _) hgrow)); clear hown' hgrow ho4)
        go_roundw
        case rel => exact ⟨m ++ [(K, N, T)], a4, cap4, n + (t.length + 1), r, by simp, by rw [HV.out], HR4.out⟩
        case measure => simp only [strLen]; exact hVs.out

end Go.Proofs.YtlnffpofbfigaaaDoor

/-
  Journals read: the model's.
-/
namespace Go.Proofs.YtlnffpofbfigaaaDoor
open Go.RowKit

def SjR (l : List UInt8) (w : World) (m : List Dd) (a : Option Addr) (cap f k : Nat) (wr : World) : Prop :=
  rdJ l = (m ++ (goJ ((l.drop f).take (k - f)) (l.drop k)).1, f + (goJ ((l.drop f).take (k - f)) (l.drop k)).2) ∧ Own3 wr w.heap.size a cap m ∧ w.grownBy wr none
def SjRel (l : List UInt8) (w : World) (ov fv kv : Value) (wr : World) : Prop :=
  ∃ (m : List Dd) (a : Option Addr) (cap f k : Nat), f ≤ k ∧ k ≤ l.length ∧ m.length ≤ f ∧ ov = .slice a m.length cap ∧ fv = .int .i64 f ∧ kv = .int .i64 k ∧ SjR l w m a cap f k wr
theorem SjR.grown {l : List UInt8} {w wr w' : World} {m : List Dd} {a : Option Addr} {cap f k : Nat} (h : SjR l w m a cap f k wr) (g : wr.grownBy w' none) : SjR l w m a cap f k w' :=
  ⟨h.1, h.2.1.kept g, grownBy_trans h.2.2 g⟩
theorem sj_fin {l : List UInt8} {w wr : World} {m : List Dd} {a : Option Addr} {cap f : Nat} (h : rdJ l = (m, f)) (ho : Own3 wr w.heap.size a cap m) (hg : w.grownBy wr none) : RjPost l w (.returned (.tuple #[.slice a m.length cap, .int .i64 (f : Nat)])) wr := by
  unfold RjPost
  rw [h]
  exact ⟨a, cap, rfl, ho, hg⟩
theorem SjR.end_ {l : List UInt8} {w wr : World} {m : List Dd} {a : Option Addr} {cap f : Nat} (h : SjR l w m a cap f l.length wr) : rdJ l = (m, f) := by
  have := h.1
  rw [List.drop_length, goJ_nil] at this
  simpa using this
theorem SjR.no {l r : List UInt8} {w wr : World} {m : List Dd} {a : Option Addr} {cap f k : Nat} (h : SjR l w m a cap f k wr) (hd : l.drop k = 10 :: r) (hq : rdD ((l.drop f).take (k - f)) = none) : rdJ l = (m, f) := by
  have := h.1
  rw [hd, goJ_no r hq] at this
  simpa using this
theorem SjR.yes {l r : List UInt8} {w wr w' : World} {m : List Dd} {a a' : Option Addr} {cap cap' f k : Nat} {D : Dd} (h : SjR l w m a cap f k wr) (hfk : f ≤ k) (hk : k < l.length) (hd : l.drop k = 10 :: r) (hq : rdD ((l.drop f).take (k - f)) = some D) (ho : Own3 w' w.heap.size a' cap' (m ++ [D])) (hg : w.grownBy w' none) : SjR l w (m ++ [D]) a' cap' (k + 1) (k + 1) w' := by
  have := h.1
  have hd1 : l.drop (k + 1) = r := by rw [← List.drop_drop, hd]; rfl
  rw [hd, goJ_yes r hq] at this
  refine ⟨?_, ho, hg⟩
  rw [this, hd1, Nat.sub_self, List.take_zero, List.append_assoc]
  have hl : ((l.drop f).take (k - f)).length = k - f := by simp; omega
  rw [hl]
  simp only [List.singleton_append, Prod.mk.injEq, true_and]
  omega
theorem SjR.more {l r : List UInt8} {w wr : World} {m : List Dd} {a : Option Addr} {cap f k : Nat} {c : UInt8} (h : SjR l w m a cap f k wr) (hfk : f ≤ k) (hd : l.drop k = c :: r) (hc : c ≠ 10) : SjR l w m a cap f (k + 1) wr := by
  have := h.1
  have hd1 : l.drop (k + 1) = r := by rw [← List.drop_drop, hd]; rfl
  have hk : l[k]? = some c := by have := congrArg (fun x => x[0]?) hd; simpa using this
  rw [hd, goJ_more _ r hc] at this
  refine ⟨?_, h.2⟩
  rw [this, hd1, show k + 1 - f = (k - f) + 1 by omega, List.take_add_one, List.getElem?_drop, show f + (k - f) = k by omega, hk]
  rfl

set_option maxRecDepth 100000 in
set_option maxHeartbeats 4000000 in
theorem srj_any (l : List UInt8) (hl : l.length ≤ 2097152) (w : World) :
    Calls Tryd.prog 4 #[.string (bs l)] w (RjPost l w) := by
  have hz := bs_size l
  obtain ⟨i0, hi, hz0, hz1, hz2⟩ := info_parts infoDd
  go_enter Tryd.func4, Tryd.ntmps4
  go_wp2_with fail
  go_loopw [4, 5, 6] (fun ov fv kv wr => SjRel l w ov fv kv wr) (fun _ _ kv _ => l.length - (intOf kv).toNat)
  case atStart => exact ⟨[], _, 0, 0, 0, by omega, by omega, by simp, rfl, rfl, rfl, by simp [rdJ], Own3.made w, World.grownBy_alloc w _ none⟩
  case round =>
    obtain ⟨m, a, cap, f, k, hfk, hkl, hmf, rfl, rfl, rfl, hS⟩ := hrel
    have HS := Lib.hid hS
    have e9 := ext_bs l f k
    clear hS
    by_cases hlt : k < l.length
    · obtain ⟨c, r, hd⟩ : ∃ c r, l.drop k = c :: r := by
        cases hx : l.drop k with
        | nil => have := congrArg List.length hx; simp at this; omega
        | cons c r => exact ⟨c, r, rfl⟩
      have hidx := idx_run (s := bs l) (p := k) hd
      have w1 : wrap64 ((k : Int) + 1) = (k : Int) + 1 := by unfold wrap64; omega
      have HD := Lib.hid hd
      by_cases hc : c = 10
      · subst hc
        have htl : ((l.drop f).take (k - f)).length ≤ 2097152 := by simp; omega
        cases hq : rdD ((l.drop f).take (k - f)) with
        | none =>
          have cd := fun w => srd_v _ _ (rdV_none hq) w htl
          rw [← e9] at cd
          unfold ddV nilDd at cd
          rw [show bs ([] : List UInt8) = ⟨#[]⟩ from rfl] at cd
          have hfin := Lib.hid (HS.out.no HD.out hq)
          clear hq htl hd e9
          go_wp2_with fail
          refine (cd _).mono ?_
          rintro e w2 ⟨rfl, g2⟩
          have S2 := Lib.hid (HS.out.grown (grownBy_trans g2 (World.grownBy_alloc w2 (.cells #[.int .i64 0, .int .i64 0, .string ⟨#[]⟩] 29) none)))
          clear g2
          go_wp2_with fail
          refine bodyPost_ret (results_tmp2 rfl _ _ _) rfl ?_
          exact sj_fin hfin.out S2.out.2.1 S2.out.2.2
        | some D =>
          obtain ⟨K, N, T⟩ := D
          have cd := fun w => srd_v _ _ (rdV_some hq) w htl
          rw [← e9] at cd
          unfold ddV at cd
          have HQ := Lib.hid hq
          clear hq htl hd e9
          go_wp2_with fail
          refine (cd _).mono ?_
          rintro e w2 ⟨rfl, g2⟩
          have gA := World.grownBy_alloc w2 (.cells #[.int .i64 K, .int .i64 N, .string (bs T)] 29) none
          have gB := World.grownBy_alloc (w2.alloc (.cells #[.int .i64 K, .int .i64 N, .string (bs T)] 29)) (.cells #[.int .i64 K, .int .i64 N, .string (bs T)] 29) none
          have S2 := Lib.hid (HS.out.grown (grownBy_trans (grownBy_trans g2 gA) gB))
          have HN2 := Lib.hid (CellsAt.second w2 (.cells #[.int .i64 K, .int .i64 N, .string (bs T)] 29) #[.int .i64 K, .int .i64 N, .string (bs T)] 29)
          have hsz := S2.out.2.2.size
          have hm1 : m.length + 1 ≤ 2097153 := by omega
          clear g2 gA gB
          go_wp2_with (at_builtin; refine wpList_append_own _ rfl _ _ 22 rfl w.heap.size 29 i0 (.agg #[.int .i64 0, .int .i64 0, .string ⟨#[]⟩]) 3 32 Tryd.underlying22 hi hz0 hz1 hz2 rfl (by decide) _ _ _ rfl S2.out.2.1 ⟨w2.heap.size + 1, 0, none⟩ 1 1 (ddC [(K, N, T)]) rfl rfl (ddC_news HN2.out) (ddC_one [(K, N, T)]) (by unfold maxLen; omega) (by omega) hsz ?_; intro v' w4 hown' hgrow _; obtain ⟨a4, cap4, rfl, ho4⟩ := own3_more hown'; have S4 := Lib.hid (S2.out.yes hfk hlt HD.out HQ.out ho4 (grow_own3 S2.out.2.2 S2.out.2.1 (Nat.le_refl _) hgrow)); clear hown' hgrow ho4)
          go_roundw
          case rel => exact ⟨m ++ [(K, N, T)], a4, cap4, k + 1, k + 1, by omega, by omega, by simp; omega, by simp, by go_num, by go_num, S4.out⟩
          case measure => simp [intOf]; omega
      · have hne : ((c.toNat : Int) == 10) = false := beq_false_of_ne fun e => hc (UInt8.toNat_inj.1 (by simpa using (by exact_mod_cast e : c.toNat = 10)))
        have hne2 : ¬ (c.toNat = 10) := fun e => hc (UInt8.toNat_inj.1 (by simpa using e))
        have S2 := Lib.hid (HS.out.more hfk HD.out hc)
        clear hd e9 hc
        go_wp2_with fail
        go_roundw
        case rel => exact ⟨m, a, cap, f, k + 1, by omega, by omega, hmf, rfl, rfl, by go_num, S2.out⟩
        case measure => simp [intOf]; omega
    · obtain rfl : k = l.length := by omega
      have hfin := Lib.hid HS.out.end_
      clear e9
      go_wp2_with fail
      refine bodyPost_ret (results_tmp2 rfl _ _ _) rfl ?_
      exact sj_fin hfin.out HS.out.2.1 HS.out.2.2

end Go.Proofs.YtlnffpofbfigaaaDoor

/-
  Rows of deeds marked, and marked rows of deeds read again.
-/
namespace Go.Proofs.YtlnffpofbfigaaaDoor
open Go.RowKit

/-- The deeds that the laws write into a row, from the mark k on. -/
def mkQ (k : Nat) (i : Nat) : Dd := (((k + 3 * i : Nat) : Int), ((k + 3 * i + 1 : Nat) : Int), mtx (k + 3 * i + 2))
def mkRow3 (k n : Nat) : List Dd := (List.range n).map (mkQ k)
theorem mkRow3_len (k n : Nat) : (mkRow3 k n).length = n := by simp [mkRow3]
theorem mkRow3_at (k n i : Nat) (h : i < n) : (mkRow3 k n).getD i nilDd = mkQ k i := by simp [mkRow3, List.getD_eq_getElem?_getD, h]
/-- The row while it is marked: the first i are. -/
def MkCur3 (cur : Array Value) (off k n i : Nat) : Prop :=
  (∀ j, j < i → cur[off + j * 3]? = some (.int .i64 (mkQ k j).1) ∧ cur[off + j * 3 + 1]? = some (.int .i64 (mkQ k j).2.1) ∧ cur[off + j * 3 + 2]? = some (.string (bs (mkQ k j).2.2))) ∧ ∀ j, i ≤ j → j < n → ∃ u v x, cur[off + j * 3]? = some u ∧ cur[off + j * 3 + 1]? = some v ∧ cur[off + j * 3 + 2]? = some x
theorem MkCur3.next {cur : Array Value} {off k n i : Nat} (h : MkCur3 cur off k n i) (hi : i < n) : MkCur3 (((cur.setIfInBounds (off + i * 3) (.int .i64 (mkQ k i).1)).setIfInBounds (off + i * 3 + 1) (.int .i64 (mkQ k i).2.1)).setIfInBounds (off + i * 3 + 2) (.string (bs (mkQ k i).2.2))) off k n (i + 1) := by
  obtain ⟨u, v, x, hu, hv, hx⟩ := h.2 i (Nat.le_refl _) hi
  have su := (Array.getElem?_eq_some_iff.1 hu).1
  have sv := (Array.getElem?_eq_some_iff.1 hv).1
  have sx := (Array.getElem?_eq_some_iff.1 hx).1
  refine ⟨fun j hj => ?_, fun j hj hn => ?_⟩
  · by_cases e : j = i
    · subst e
      refine ⟨?_, ?_, ?_⟩
      · rw [Array.getElem?_setIfInBounds_ne (by omega), Array.getElem?_setIfInBounds_ne (by omega), Array.getElem?_setIfInBounds_self_of_lt su]
      · rw [Array.getElem?_setIfInBounds_ne (by omega), Array.getElem?_setIfInBounds_self_of_lt (by simpa using sv)]
      · rw [Array.getElem?_setIfInBounds_self_of_lt (by simpa using sx)]
    · have := h.1 j (by omega)
      refine ⟨?_, ?_, ?_⟩
      · rw [Array.getElem?_setIfInBounds_ne (by omega), Array.getElem?_setIfInBounds_ne (by omega), Array.getElem?_setIfInBounds_ne (by omega)]; exact this.1
      · rw [Array.getElem?_setIfInBounds_ne (by omega), Array.getElem?_setIfInBounds_ne (by omega), Array.getElem?_setIfInBounds_ne (by omega)]; exact this.2.1
      · rw [Array.getElem?_setIfInBounds_ne (by omega), Array.getElem?_setIfInBounds_ne (by omega), Array.getElem?_setIfInBounds_ne (by omega)]; exact this.2.2
  · obtain ⟨x, y, z, h1, h2, h3⟩ := h.2 j (by omega) hn
    refine ⟨x, y, z, ?_, ?_, ?_⟩
    · rw [Array.getElem?_setIfInBounds_ne (by omega), Array.getElem?_setIfInBounds_ne (by omega), Array.getElem?_setIfInBounds_ne (by omega)]; exact h1
    · rw [Array.getElem?_setIfInBounds_ne (by omega), Array.getElem?_setIfInBounds_ne (by omega), Array.getElem?_setIfInBounds_ne (by omega)]; exact h2
    · rw [Array.getElem?_setIfInBounds_ne (by omega), Array.getElem?_setIfInBounds_ne (by omega), Array.getElem?_setIfInBounds_ne (by omega)]; exact h3

def MkRel3 (k n g off : Nat) (w : World) (kv iv : Value) (wr : World) : Prop :=
  ∃ (i : Nat) (cur : Array Value), i ≤ n ∧ kv = .int .i64 ((k + 3 * i : Nat) : Int) ∧ iv = .int .i64 i ∧ wr.heap[g]? = some (.cells cur 29 (0, 0)) ∧ MkCur3 cur off k n i ∧ w.grownBy wr (some g)
theorem heap_put3 {W : World} {g j : Nat} {cur : Array Value} {v : Value} (h : W.heap[g]? = some (.cells cur 29 (0, 0))) : (W.setCell ⟨g, j, none⟩ v).heap[g]? = some (.cells (cur.setIfInBounds j v) 29 (0, 0)) := CellsAt.set (T := 29) h j v

set_option maxRecDepth 8000 in
set_option maxHeartbeats 2000000 in
theorem markDeedS_at (k n g off cap : Nat) (cur0 : Array Value) (hk : 0 < k ∧ k ≤ 10000000) (hn : n ≤ 10000000) (w : World) (hg : w.heap[g]? = some (.cells cur0 29 (0, 0))) (hm : MkCur3 cur0 off k n 0) :
    Calls Tryd.prog 7 #[.slice (some ⟨g, off, none⟩) n cap, .int .i64 k] w fun e w' => ∃ cur, e = .returned (.int .i64 ((k + 3 * n : Nat) : Int)) ∧ w'.heap[g]? = some (.cells cur 29 (0, 0)) ∧ MkCur3 cur off k n n ∧ w.grownBy w' (some g) := by
  have HG := Lib.hid hg
  have HM := Lib.hid hm
  clear hg hm
  go_enter Tryd.func7, Tryd.ntmps7
  go_wp2
  go_loopw [1, 5] (fun kv iv wr => MkRel3 k n g off w kv iv wr) (fun _ iv _ => n - (intOf iv).toNat)
  case atStart => exact ⟨0, cur0, by omega, by simp, rfl, HG.out, HM.out, grownBy_refl _ _⟩
  case round =>
    obtain ⟨i, cur, hi, rfl, rfl, hh, hc, hgr⟩ := hrel
    by_cases hlt : i < n
    · obtain ⟨u, v, x, hu, hv, hx⟩ := hc.2 i (Nat.le_refl _) hlt
      have c0 : wr.cell? ⟨g, off + i * 3, none⟩ = some u := by rw [cell_of_row wr g _ cur _ (0, 0) hh]; exact hu
      have f0 : wr.frozen? ⟨g, off + i * 3, none⟩ = false := frozen_of_row wr g _ cur _ hh
      have hnx := Lib.hid (hc.next hlt)
      obtain ⟨K, hK⟩ : ∃ K, K = k + 3 * i := ⟨_, rfl⟩
      have hp : Hid (mkQ k i = ((K : Int), ((K + 1 : Nat) : Int), mtx (K + 2))) := by rw [hK]; rfl
      have hKs : 0 < K ∧ K ≤ 100000000 - 2 := by omega
      have cm : ∀ w, Calls Tryd.prog 13 #[.int .i64 ((K : Int) + 1 + 1)] w fun e w' => e = .returned (.string (bs (mtx (K + 2)))) ∧ w.grownBy w' none := fun w => markText_any (K + 2) (by omega) (by omega) w
      have h1 := heap_put3 (j := off + i * 3) (v := .int .i64 (K : Int)) hh
      have hv1 : (cur.setIfInBounds (off + i * 3) (.int .i64 (K : Int)))[off + i * 3 + 1]? = some v := by rw [Array.getElem?_setIfInBounds_ne (by omega)]; exact hv
      have d1 : (wr.setCell ⟨g, off + i * 3, none⟩ (.int .i64 (K : Int))).cell? ⟨g, off + i * 3 + 1, none⟩ = some v := by rw [cell_of_row _ g _ _ _ (0, 0) h1]; exact hv1
      have f1 : (wr.setCell ⟨g, off + i * 3, none⟩ (.int .i64 (K : Int))).frozen? ⟨g, off + i * 3 + 1, none⟩ = false := frozen_of_row _ g _ _ _ h1
      have h2 := Lib.hid (heap_put3 (j := off + i * 3 + 1) (v := .int .i64 ((K : Int) + 1)) h1)
      have hx1 : ((cur.setIfInBounds (off + i * 3) (.int .i64 (K : Int))).setIfInBounds (off + i * 3 + 1) (.int .i64 ((K : Int) + 1)))[off + i * 3 + 2]? = some x := by rw [Array.getElem?_setIfInBounds_ne (by omega), Array.getElem?_setIfInBounds_ne (by omega)]; exact hx
      have HX1 := Lib.hid hx1
      have G1 := Lib.hid (grownBy_trans (grownBy_trans hgr (grownBy_set wr g (off + i * 3) (.int .i64 (K : Int)))) (grownBy_set _ g (off + i * 3 + 1) (.int .i64 ((K : Int) + 1))))
      rw [← hK]
      have HK := Lib.hid hK
      clear hh hc hgr hu hv hv1 hK hx hx1 h1
      go_wp2_with (first | (go_at_call 13; refine (cm _).mono ?_; rintro e w2 ⟨rfl, hg2⟩; have h3 : w2.heap[g]? = _ := (hg2.block g (Array.getElem?_eq_some_iff.1 h2.out).1 (by simp)).trans h2.out; have c2 : w2.cell? ⟨g, off + i * 3 + 2, none⟩ = some x := (by rw [cell_of_row w2 g _ _ _ (0, 0) h3]; exact HX1.out); have f2 : w2.frozen? ⟨g, off + i * 3 + 2, none⟩ = false := frozen_of_row w2 g _ _ _ h3; have h4 := Lib.hid (heap_put3 (j := off + i * 3 + 2) (v := .string (bs (mtx (K + 2)))) h3); have G3 := Lib.hid (grownBy_trans G1.out (grownBy_trans (grown_any hg2) (grownBy_set w2 g (off + i * 3 + 2) (.string (bs (mtx (K + 2))))))); clear h3 hg2))
      go_roundw
      case rel =>
        have e : ((K : Int) + 1 + 1 + 1) = ((k + 3 * (i + 1) : Nat) : Int) := by have := HK.out; omega
        refine ⟨i + 1, _, by omega, by rw [← e], by go_num, h4.out, ?_, G3.out⟩
        have q := hnx.out
        rw [hp.out] at q
        exact q
      case measure => simp [intOf]; omega
    · obtain rfl : i = n := by omega
      have R := Lib.hid (show ∃ cur, wr.heap[g]? = some (.cells cur 29 (0, 0)) ∧ MkCur3 cur off k i i ∧ w.grownBy wr (some g) from ⟨cur, hh, hc, hgr⟩)
      clear hh hc hgr
      go_wp2
      go_ret
      obtain ⟨cur, h1, h2, h3⟩ := R.out
      exact ⟨cur, rfl, h1, h2, h3⟩

set_option maxHeartbeats 1000000 in
theorem markDeedS_zero (a : Option Addr) (cap : Nat) (k : Int) (w : World) :
    Calls Tryd.prog 7 #[.slice a 0 cap, .int .i64 k] w fun e w' => e = .returned (.int .i64 k) ∧ w = w' := by
  go_enter Tryd.func7, Tryd.ntmps7
  go_wp2
  go_loopw [1, 5] (fun kv iv wr => kv = .int .i64 k ∧ iv = .int .i64 0 ∧ w = wr) (fun _ _ _ => 0)
  case atStart => exact ⟨rfl, rfl, rfl⟩
  case round =>
    obtain ⟨rfl, rfl, rfl⟩ := hrel
    go_wp2
    go_ret
    exact ⟨rfl, rfl⟩

/-- What is left of a row of deeds that was marked; nothing else changed but its own block. -/
def Marked3 (a : Option Addr) (k n : Nat) (w w' : World) : Prop := DdsAt w' a (mkRow3 k n) ∧ ∃ row : Option Nat, (∀ g, row = some g → 0 < n ∧ ∃ x, a = some x ∧ x.block = g) ∧ w.grownBy w' row

theorem markDeedS_any (k base cap : Nat) (a : Option Addr) (xs : List Dd) (hk : 0 < k ∧ k ≤ 10000000) (hn : xs.length ≤ 10000000) (W : World) (h : Own3 W base a cap xs) :
    Calls Tryd.prog 7 #[.slice a xs.length cap, .int .i64 k] W fun e w' => e = .returned (.int .i64 ((k + 3 * xs.length : Nat) : Int)) ∧ Marked3 a k xs.length W w' := by
  by_cases h0 : xs = []
  · subst h0
    refine (markDeedS_zero a cap k W).mono ?_
    rintro e w' ⟨rfl, rfl⟩
    exact ⟨by simp, DdsAt.nil _ _, none, by simp, grownBy_refl _ _⟩
  · obtain ⟨g, cur, rfl, hb, hg, hc⟩ := h.curs.resolve_left h0
    have hpos : 0 < xs.length := List.length_pos_iff.2 h0
    refine (markDeedS_at k xs.length g 0 cap cur hk hn W hg ⟨fun j hj => absurd hj (by omega), fun j _ hj => ⟨_, _, _, by rw [Nat.zero_add]; exact (hc j hj).1, by rw [Nat.zero_add]; exact (hc j hj).2.1, by rw [Nat.zero_add]; exact (hc j hj).2.2⟩⟩).mono ?_
    rintro e w' ⟨cur', rfl, h1, h2, h3⟩
    refine ⟨rfl, ⟨by rw [mkRow3_len]; exact Nat.le_trans h.room.1 h.room.2, .inr ⟨g, 0, rfl, (Array.getElem?_eq_some_iff.1 h1).1, fun i hi => ?_⟩⟩, some g, fun q hq => ?_, h3⟩
    · rw [mkRow3_len] at hi
      rw [mkRow3_at k _ i hi, cell_of_row w' g _ cur' _ (0, 0) h1, cell_of_row w' g _ cur' _ (0, 0) h1, cell_of_row w' g _ cur' _ (0, 0) h1]
      exact h2.1 i hi
    · cases hq
      exact ⟨hpos, _, rfl, rfl⟩

end Go.Proofs.YtlnffpofbfigaaaDoor

/-
  Marked rows of deeds read again; the walk of FnExactReadJournal.
-/
namespace Go.Proofs.YtlnffpofbfigaaaDoor
open Go.RowKit

def HdRel3 (k n : Nat) (w : World) (kv iv : Value) (wr : World) : Prop := ∃ i : Nat, i ≤ n ∧ kv = .int .i64 ((k + 3 * i : Nat) : Int) ∧ iv = .int .i64 i ∧ w.grownBy wr none

set_option maxRecDepth 8000 in
set_option maxHeartbeats 2000000 in
theorem heldDeedS_any (k n cap : Nat) (a : Option Addr) (hk : 0 < k ∧ k ≤ 10000000) (hn : n ≤ 10000000) (w : World) (hx : DdsAt w a (mkRow3 k n)) :
    Calls Tryd.prog 8 #[.slice a n cap, .int .i64 k] w fun e w' => e = .returned (.int .i64 ((k + 3 * n : Nat) : Int)) ∧ w.grownBy w' none := by
  have HX := Lib.hid hx
  clear hx
  go_enter Tryd.func8, Tryd.ntmps8
  go_wp2
  go_loopw [1, 5] (fun kv iv wr => HdRel3 k n w kv iv wr) (fun _ iv _ => n - (intOf iv).toNat)
  case atStart => exact ⟨0, by omega, by simp, rfl, grownBy_refl _ _⟩
  case round =>
    obtain ⟨i, hi, rfl, rfl, hgr⟩ := hrel
    have Hgr := Lib.hid hgr
    clear hgr
    by_cases hlt : i < n
    · rcases (HX.out.grown Hgr.out).2 with h0 | ⟨b, off, rfl, hb, hc⟩
      · have := congrArg List.length h0; rw [mkRow3_len] at this; simp at this; omega
      obtain ⟨c0, c1, c2⟩ := hc i (by rw [mkRow3_len]; exact hlt)
      rw [mkRow3_at k n i hlt] at c0 c1 c2
      obtain ⟨K, hK⟩ : ∃ K, K = k + 3 * i := ⟨_, rfl⟩
      have hp : mkQ k i = ((K : Int), ((K : Int) + 1), mtx (K + 2)) := by rw [hK]; unfold mkQ; push_cast; rfl
      rw [hp] at c0 c1 c2
      have cm : ∀ w, Calls Tryd.prog 13 #[.int .i64 ((K : Int) + 1 + 1)] w fun e w' => e = .returned (.string (bs (mtx (K + 2)))) ∧ w.grownBy w' none := fun w => by
        have := markText_any (K + 2) (by omega) (by omega) w
        rw [show ((K + 2 : Nat) : Int) = (K : Int) + 1 + 1 by omega] at this
        exact this
      have hKb : K ≤ 100000000 := by omega
      rw [← hK]
      have HK := Lib.hid hK
      have HC := Lib.hid c2
      clear hc hb hK hp
      generalize bs (mtx (K + 2)) = T at *
      go_wp2_with fail
      go_region_with (go_at_call 13; refine (cm _).mono ?_; rintro e w2 ⟨rfl, hg2⟩; have c1' := (drew_grown hg2).cell HC.out (by simp))
      all_goals go_wp2_with fail
      all_goals go_roundw
      all_goals first | (simp [intOf]; omega) | exact ⟨i + 1, by omega, by have := HK.out; congr 1; omega, by go_num, grownBy_trans Hgr.out (drew_grown hg2)⟩
    · obtain rfl : i = n := by omega
      go_wp2
      go_ret
      exact ⟨rfl, Hgr.out⟩

theorem own3_apart {w1 w2 : World} {base : Nat} {a b : Option Addr} {ca cb : Nat} {x y : List Dd} (h1 : Own3 w1 base a ca x) (h2 : Own3 w2 w1.heap.size b cb y) :
    ∀ z, a = some z → some z.block ≠ (Value.slice b y.length cb).ownBlock := by
  intro z hz e
  subst hz
  have l1 := World.ownsRow.lt h1 z.block rfl
  have l2 := World.ownsRow.lt h2 z.block e.symm
  omega

theorem marked_apart {ay ax : Option Addr} {n cap N : Nat} {row : Option Nat} (ha : ∀ z, ay = some z → some z.block ≠ (Value.slice ax n cap).ownBlock) (hrow : ∀ g, row = some g → 0 < N ∧ ∃ x, ax = some x ∧ x.block = g) : ∀ z, ay = some z → some z.block ≠ row := by
  intro z hz e
  obtain ⟨_, x, hx, hb⟩ := hrow z.block e.symm
  exact ha z hz (by rw [hx]; simp [Value.ownBlock, hb])
theorem grown_row {w W W' : World} {row : Option Nat} (g : w.grownBy W none) (h : W.grownBy W' row) (hr : ∀ b, row = some b → w.heap.size ≤ b) : w.grownBy W' none :=
  ⟨h.os.trans g.os, h.tape.trans g.tape, h.output.trans g.output, Nat.le_trans g.size h.size, fun k hk _ => (h.block k (Nat.lt_of_lt_of_le hk g.size) (fun e => by have := hr k e.symm; omega)).trans (g.block k hk (by simp))⟩
theorem row_above {W : World} {base B cap N : Nat} {ax : Option Addr} {m : List Dd} {row : Option Nat} (ho : Own3 W base ax cap m) (hB : B ≤ base) (hrow : ∀ g, row = some g → 0 < N ∧ ∃ x, ax = some x ∧ x.block = g) : ∀ b, row = some b → B ≤ b := by
  intro b hb
  obtain ⟨_, x, rfl, hx⟩ := hrow b hb
  have := (World.ownsRow.lt ho x.block (by simp [Value.ownBlock])).1
  omega
theorem jL_ge : ∀ m : List Dd, m.length ≤ (jL m).length
  | [] => by simp
  | a :: m => by
    have := jL_ge m
    simp only [jL, List.length_append, List.length_cons]
    omega
theorem rdJ_len {l : List UInt8} {m : List Dd} {k : Nat} (h : rdJ l = (m, k)) : m.length ≤ l.length := by
  have h2 : jL m = l.take k := by
    have := (j_text l).2.1
    rw [h] at this
    exact this
  have h1 := jL_ge m
  have := congrArg List.length h2
  rw [List.length_take] at this
  omega
theorem irj_is2 (l : List UInt8) (m : List Dd) (k : Nat) (h : rdJ l = (m, k)) (hl : l.length ≤ 1099511627776) (w : World) (hT : WdAt w) (hE : ErAt w) :
    Calls Tryd.prog 5 #[.string (bs l)] w fun e w' => ∃ (a : Option Addr) (cap : Nat), e = .returned (.tuple #[.slice a m.length cap, .int .i64 k]) ∧ Own3 w' w.heap.size a cap m ∧ w.grownBy w' none := by
  have hh := irj_any l hl w hT hE
  unfold RjPost at hh
  rw [h] at hh
  exact hh
theorem srj_is (l : List UInt8) (m : List Dd) (k : Nat) (h : rdJ l = (m, k)) (hl : l.length ≤ 2097152) (w : World) :
    Calls Tryd.prog 4 #[.string (bs l)] w fun e w' => ∃ (a : Option Addr) (cap : Nat), e = .returned (.tuple #[.slice a m.length cap, .int .i64 k]) ∧ Own3 w' w.heap.size a cap m ∧ w.grownBy w' none := by
  have hh := srj_any l hl w
  unfold RjPost at hh
  rw [h] at hh
  exact hh

set_option maxRecDepth 100000 in
set_option maxHeartbeats 4000000 in
theorem FnExactReadJournal_walk (a0 : ByteArray) (_w0 : a0.size ≤ maxLen) (w : World) (hT : WdAt w ∧ ErAt w) :
    Calls Tryd.prog 3 #[.string a0] w fun e w' => e = .returned (.bool true) ∧ Below w.heap.size w w' := by
  by_cases hl : (1048576 : Int) < (a0.size : Int)
  · go_enter Tryd.func3, Tryd.ntmps3
    go_wp2_with fail
    go_ret
    exact ⟨rfl, Below.refl _ _⟩
  · have hz := bl_size a0
    have hlen : (bl a0).length ≤ 1048576 := by omega
    obtain ⟨m, k, hq⟩ : ∃ m k, rdJ (bl a0) = (m, k) := ⟨_, _, rfl⟩
    have hmn := rdJ_len hq
    have c1 := fun w hT hE => irj_is2 (bl a0) m k hq (by omega) w hT hE
    have c2 := fun w => srj_is (bl a0) m k hq (by omega) w
    rw [bs_bl] at c1 c2
    have HM := Lib.hid (show m.length ≤ 1048576 by omega)
    have HT := Lib.hid hT
    clear hT hq hz hlen hmn
    go_enter Tryd.func3, Tryd.ntmps3
    go_wp2_with fail
    refine (c2 w).mono ?_
    rintro e w1 ⟨ay, cy, rfl, oy, g1⟩
    have G1 := Lib.hid g1
    have OY := Lib.hid oy
    clear g1 c2 oy
    go_wp2_with fail
    refine (c1 w1 (HT.out.1.grown G1.out) (HT.out.2.grown G1.out)).mono ?_
    rintro e w2 ⟨ax, cx, rfl, ox, g2⟩
    have G2 := Lib.hid (grownBy_trans G1.out g2)
    have OX := Lib.hid ox
    have OY2 := Lib.hid (OY.out.kept g2)
    have AP := Lib.hid (own3_apart OY.out ox)
    clear g2 ox
    go_wp2_with fail
    refine (eqDeedS_yes ax ay cx cy m w2 OX.out.at OY2.out.at).mono ?_
    rintro e w3 ⟨rfl, g3⟩
    have OX3 := Lib.hid (OX.out.kept g3)
    have OY3 := Lib.hid (OY2.out.kept g3)
    have G3 := Lib.hid (grownBy_trans G2.out g3)
    clear g3
    go_wp2_with fail
    refine (markDeedS_any 1 w1.heap.size cx ax m (by omega) (by have := HM.out; omega) w3 OX3.out).mono ?_
    rintro e w4 ⟨rfl, hx4, row, hrow, g4⟩
    have X4 := Lib.hid hx4
    have Y4 := Lib.hid (OY3.out.at.kept g4 (marked_apart AP.out hrow))
    have G4 := Lib.hid (grown_row G3.out g4 (row_above OX3.out G1.out.size hrow))
    clear hx4 hrow g4
    obtain ⟨q, hq⟩ : ∃ q : Int, q = ((1 + 3 * m.length : Nat) : Int) := ⟨_, rfl⟩
    have HQ := Lib.hid (show 0 ≤ q by omega)
    have ch : ∀ W, DdsAt W ax (mkRow3 1 m.length) → Calls Tryd.prog 8 #[.slice ax m.length cx, .int .i64 1] W fun e w' => e = .returned (.int .i64 q) ∧ W.grownBy w' none := fun W hW => by
      rw [hq]
      exact heldDeedS_any 1 m.length cx ax (by omega) (by have := HM.out; omega) W hW
    rw [← hq]
    have hq0 : ¬ (q < 0) := by have := HQ.out; omega
    clear hq
    go_wp2_with fail
    refine (ch w4 X4.out).mono ?_
    rintro e w5 ⟨rfl, g5⟩
    have X5 := Lib.hid (X4.out.grown g5)
    have Y5 := Lib.hid (Y4.out.grown g5)
    have G5 := Lib.hid (grownBy_trans G4.out g5)
    clear g5
    go_wp2_with fail
    refine (c1 w5 (HT.out.1.grown G5.out) (HT.out.2.grown G5.out)).mono ?_
    rintro e w6 ⟨az, cz, rfl, oz, g6⟩
    have X6 := Lib.hid (X5.out.grown g6)
    have Y6 := Lib.hid (Y5.out.grown g6)
    have OZ := Lib.hid oz
    have G6 := Lib.hid (grownBy_trans G5.out g6)
    clear g6 oz c1
    go_wp2_with fail
    refine (eqDeedS_yes az ay cz cy m w6 OZ.out.at Y6.out).mono ?_
    rintro e w7 ⟨rfl, g7⟩
    have X7 := Lib.hid (X6.out.grown g7)
    have G7 := Lib.hid (grownBy_trans G6.out g7)
    clear g7
    go_wp2_with fail
    refine (ch w7 X7.out).mono ?_
    rintro e w8 ⟨rfl, g8⟩
    go_wp2_with fail
    go_ret
    exact ⟨rfl, below_of (grownBy_trans G7.out g8)⟩

end Go.Proofs.YtlnffpofbfigaaaDoor

/-
  From the premise that the listed variables lie as the program's text lays them: the words of deeds, and the library's two errors.
-/
namespace Go.Proofs.YtlnffpofbfigaaaDoor
open Go.ChangeShapes Go.WideShapes Go.ChangeAt Go.RowKit Go.Stop

theorem dword_list : (Rows.laid_loop_example_manyvalues_impl_deedWords : DataW Unit) = .agg (wordsL.map fun l => (DataW.lit (.string l) : DataW Unit)) := by kernel_rfl

theorem dword_cells {W : World} {g t f : Nat} {cs : Array Value} {p : List MemPlace} (hg : Tryd.prog.globalNamed "loop.example/manyvalues/impl.deedWords" = some g) (ht : (Tryd.prog.globals[g]?).map (·.type) = some t) (hv : W.var? Tryd.prog "loop.example/manyvalues/impl.deedWords" = some cs)
    (hd : DataW.trod (fun _ => ()) Tryd.prog W 0 (fun _ => true) false f t cs.toList = some (Rows.laid_loop_example_manyvalues_impl_deedWords, p)) : WdAt W := by
  rw [dword_list] at hd
  obtain rfl := Option.some.inj ((show Tryd.prog.globalNamed "loop.example/manyvalues/impl.deedWords" = some 0 by kernel_rfl).symm.trans hg)
  obtain rfl := Option.some.inj ((show (Tryd.prog.globals[0]?).map (·.type) = some 43 by kernel_rfl).symm.trans ht)
  obtain ⟨xs, m, _, ex, _, hl, hel⟩ := DataW.trod_array Tryd.underlying43 hd
  have hc1 : Tryd.prog.cellsOf 9 = 1 := by kernel_rfl
  have hlen : wordsL.length = 7 := rfl
  have e3 : (xs.map (·.1)) = wordsL.map fun l => (DataW.lit (.string l) : DataW Unit) := (DataW.agg.inj (Prod.mk.inj ex).1).symm
  have hxl : xs.length = 7 := by
    have := congrArg List.length e3
    simpa [hlen] using this
  have hc : ∀ r, r < 7 → W.cell? ⟨0, r, none⟩ = some (.string (bs (wordsL.getD r []))) := by
    intro r hr
    have hE := hel r (by omega)
    rw [hc1, Nat.mul_one, List.getElem?_eq_getElem (by omega)] at hE
    obtain ⟨z, e1, e2, _⟩ := DataW.trod_string Tryd.underlying9 hE
    have e4 : (xs.map (·.1))[r]? = (wordsL.map fun l => (DataW.lit (.string l) : DataW Unit))[r]? := by rw [e3]
    rw [List.getElem?_map, List.getElem?_map, List.getElem?_eq_getElem (by omega : r < xs.length), List.getElem?_eq_getElem (by omega : r < wordsL.length), e2] at e4
    have hz : z = bs (wordsL.getD r []) := by
      simp only [Option.map_some, Option.some.injEq, DataW.lit.injEq, Lit.string.injEq] at e4
      rw [List.getD_eq_getElem?_getD, List.getElem?_eq_getElem (by omega : r < wordsL.length), Option.getD_some, ← e4]
      exact (bs_bl z).symm
    rw [World.var?_cell hg hv r, ← hz]
    have : cs.toList[r]? = some (.string z) := by
      have h0 : ((cs.toList.drop r).take 1)[0]? = some (.string z) := by rw [e1]; rfl
      simpa using h0
    simpa using this
  exact ⟨World.block_lt_of_cell? W _ (hc 0 (by decide)), hc⟩

theorem wd_of_met {r : List (String × DataW Unit)} {W : World} (h : laidMet Tryd.prog (("loop.example/manyvalues/impl.deedWords", Rows.laid_loop_example_manyvalues_impl_deedWords) :: r) W) : WdAt W := by
  obtain ⟨ps, ⟨g0, t0, cs0, f0, p0, q0, hg0, ht0, hv0, hd0, _⟩, _⟩ := h
  exact dword_cells hg0 ht0 hv0 hd0

theorem er_star : "*" ++ "errors.errorString" = "*errors.errorString" := by decide
theorem er_type (u : TypeId) (h : Tryd.prog.typeName? 3 u = some "*errors.errorString") : u = 94 :=
  typeName_ptr_named (nm := "errors.errorString") (by rw [er_star]; kernel_rfl) (by kernel_rfl) (by decide) u (by rw [er_star]; exact h)
theorem er_cells : Tryd.prog.cellsOf 96 = 1 := by kernel_rfl
theorem er_cells9 : Tryd.prog.cellsOf 9 = 1 := by kernel_rfl
theorem er_iface {n : String} {g : Nat} {l : List UInt8} {r : List (String × DataW Unit)} {W : World} (h : laidMet Tryd.prog ((n, .iface "*errors.errorString" (.ptr (.agg [.lit (.string l)]))) :: r) W) (hg : Tryd.prog.globalNamed n = some g) (ht : (Tryd.prog.globals[g]?).map (·.type) = some 45) : ∃ tp p, W.cell? ⟨g, 0, none⟩ = some (.iface tp p) := by
  obtain ⟨a, s, hv, _, _, _⟩ := laid_sentinel h hg ht Tryd.underlying45 er_type Tryd.underlying94 Tryd.underlying96 rfl rfl Tryd.underlying9 er_cells er_cells9
  exact ⟨_, _, by simpa using World.var?_cell hg hv 0⟩

def laid6 : List (String × DataW Unit) := [("math/bits.deBruijn32tab", Rows.laid_math_bits_deBruijn32tab), ("math/bits.deBruijn64tab", Rows.laid_math_bits_deBruijn64tab), ("internal/strconv.uint64pow10", Rows.laid_internal_strconv_uint64pow10), ("strconv.ErrRange", Rows.laid_strconv_ErrRange), ("strconv.ErrSyntax", Rows.laid_strconv_ErrSyntax), ("loop.example/manyvalues/impl.deedWords", Rows.laid_loop_example_manyvalues_impl_deedWords)]
def laid4 : List (String × DataW Unit) := [("math/bits.deBruijn32tab", Rows.laid_math_bits_deBruijn32tab), ("math/bits.deBruijn64tab", Rows.laid_math_bits_deBruijn64tab), ("internal/strconv.uint64pow10", Rows.laid_internal_strconv_uint64pow10), ("loop.example/manyvalues/impl.deedWords", Rows.laid_loop_example_manyvalues_impl_deedWords)]
theorem wd_of_laid6 {W : World} (h : laidMetH Tryd.prog laid6 W) : WdAt W ∧ ErAt W := by
  rw [MakeChecks.laidMetH_plain _ _ _ (by kernel_rfl)] at h
  have h3 : laidMet Tryd.prog _ W := h.tail.tail.tail
  exact ⟨wd_of_met h3.tail.tail, er_iface h3.tail (by kernel_rfl) (by kernel_rfl), er_iface h3 (by kernel_rfl) (by kernel_rfl)⟩
theorem wd_of_laid4 {W : World} (h : laidMetH Tryd.prog laid4 W) : WdAt W := by
  rw [MakeChecks.laidMetH_plain _ _ _ (by kernel_rfl)] at h
  have h3 : laidMet Tryd.prog _ W := h.tail.tail.tail
  exact wd_of_met h3

end Go.Proofs.YtlnffpofbfigaaaDoor
