/-
  Joined out of the texts DTd, DTe, DX5, DX6, DX7, DX4, DX8, DRowD, DDkA, DTf, DTj, DTk, DTg, DTh, DXD, DDs, DTl, DTm, DTn, DTo, DLd: what each holds is told at its head.
-/
import Derived.Test.YtnkebgkocpeonaaDoorDTb
import Derived.Test.YtnkebgkocpeonaaDoorSfd
import Derived.Lib.CutLaws
import Derived.Test.YtnkebgkocpeonaaDoorDeskN
import Derived.Test.YtnkebgkocpeonaaDoorDX3
import Derived.Laws.IdiomStrings
import Derived.Test.YtnkebgkocpeonaaDoorDDraw
import Derived.Test.YtnkebgkocpeonaaDoorDDo2
import Derived.Test.YtnkebgkocpeonaaDoorADraw
import Derived.Test.YtnkebgkocpeonaaDoorDWa
import Derived.Deep.RegionWith
import Derived.Deep.AppendLies
import Derived.Test.YtnkebgkocpeonaaDoorFSpec
import Derived.Laws.AppendOwn
import Derived.Test.YtnkebgkocpeonaaDoorDeskR
import Derived.Test.YtnkebgkocpeonaaDoorDTc
import Derived.Test.YtnkebgkocpeonaaDoorDCl
import Derived.Deep.RegionHeld3
import Derived.Test.YtnkebgkocpeonaaDoorRows
import Derived.ProofKit
import Derived.OpenShut
import Derived.OpenVars
import Derived.LaidMore
import Derived.Stop.Joined
import Derived.Stop.LaidErr

/-
  Cutting a text at a byte, a number's text read, the kind of deed that has a word: impl's own.
-/
namespace Go.Proofs.YtnkebgkocpeonaaDoor
open Go.RowKit

/-- As long as a text may be that the library's numbers are read of. -/
def L48 : Nat := 281474976710656
theorem gr_below {w w' : World} (h : Below w.heap.size w w') : w.grownBy w' none := ⟨h.os, h.tape, h.output, h.size, fun k hk _ => h.block k hk⟩

theorem index1_any (l : List UInt8) (c : UInt8) (w : World) :
    Calls Tryd.prog 61 #[.string (bs l), .string ⟨#[c]⟩] w fun e w' => e = .returned (.int .i64 (Lib.indexB (bs l) ⟨#[c]⟩)) ∧ w' = w := by
  have h := Any.stringslite_Index_one Tryd.lays219 (bs l) c w
  rw [← Lib.index_one] at h
  exact h

def CutD (l : List UInt8) (c : UInt8) : Value := .tuple #[.string (bs (Lib.cut l [c]).1), .string (bs (Lib.cut l [c]).2.1), .bool (Lib.cut l [c]).2.2]
set_option maxHeartbeats 1600000 in
theorem cutlite_any (l : List UInt8) (c : UInt8) (w : World) (hl : l.length ≤ L48) :
    Calls Tryd.prog 53 #[.string (bs l), .string ⟨#[c]⟩] w fun e w' => e = .returned (CutD l c) ∧ w.grownBy w' none := by
  have ci := index1_any l c
  have hz := bs_size l
  unfold L48 at hl
  unfold CutD
  rcases Lib.indexB_cases (bs l) ⟨#[c]⟩ with h | ⟨i, h, hi⟩
  · obtain ⟨h1, h2, h3⟩ := Lib.cutB_miss (bs l) ⟨#[c]⟩ h
    change bs (Lib.cut l [c]).1 = _ at h1
    change bs (Lib.cut l [c]).2.1 = _ at h2
    change (Lib.cut l [c]).2.2 = _ at h3
    rw [h1, h2, h3]
    rw [h] at ci
    clear h h1 h2 h3
    go_enter Tryd.func53, Tryd.ntmps53
    go_wp2_with (first | (go_at_call 61; refine (ci _).mono ?_; rintro e w' ⟨rfl, rfl⟩))
    exact bodyPost_ret (results_tmp3 rfl _ _ _) rfl ⟨rfl, grownBy_refl _ _⟩
  · obtain ⟨h1, h2, h3⟩ := Lib.cutB_hit (bs l) ⟨#[c]⟩ i h
    change bs (Lib.cut l [c]).1 = _ at h1
    change bs (Lib.cut l [c]).2.1 = _ at h2
    change (Lib.cut l [c]).2.2 = _ at h3
    rw [h1, h2, h3]
    rw [h] at ci
    clear h h1 h2 h3
    change i + 1 ≤ (bs l).size at hi
    have ge : (i : Int) ≥ 0 := by omega
    have w1 : wrap64 ((i : Int) + 1) = (i : Int) + 1 := by unfold wrap64; omega
    have le1 : ((i : Int) ≤ ((bs l).size : Int)) := by omega
    have le2 : ((i : Int) + 1 ≤ ((bs l).size : Int)) := by omega
    have le3 : (0 : Int) ≤ (i : Int) + 1 := by omega
    have le0 : (0 : Int) ≤ (i : Int) := by omega
    clear hz hi
    generalize bs l = s at *
    go_enter Tryd.func53, Tryd.ntmps53
    go_wp2_with (first | (go_at_call 61; refine (ci _).mono ?_; rintro e w' ⟨rfl, rfl⟩))
    have mixed : Tryd.prog.follows Departure.mixedOrders = true := by kernel_rfl
    go_region_o
    all_goals go_wp2
    all_goals refine bodyPost_ret (results_tmp3 rfl _ _ _) rfl ?_
    all_goals first | exact ⟨rfl, grownBy_refl _ _⟩ | exact ⟨rfl, grownBy_drew (grownBy_refl _ _)⟩

theorem cut_any (l : List UInt8) (c : UInt8) (w : World) (hl : l.length ≤ L48) :
    Calls Tryd.prog 36 #[.string (bs l), .string ⟨#[c]⟩] w fun e w' => e = .returned (CutD l c) ∧ w.grownBy w' none := by
  have cc := fun w => cutlite_any l c w hl
  unfold CutD at cc ⊢
  go_enter Tryd.func36, Tryd.ntmps36
  go_wp2_with (first | (go_at_call 53; refine (cc _).mono ?_; rintro e w' ⟨rfl, hg⟩))
  exact bodyPost_ret (results_tmp3 rfl _ _ _) rfl ⟨rfl, hg⟩

/-- What the library hands back with an error lies as some value behind an interface. -/
def ErAt (w : World) : Prop := (∃ tp p, w.cell? ⟨3, 0, none⟩ = some (.iface tp p)) ∧ ∃ tp p, w.cell? ⟨4, 0, none⟩ = some (.iface tp p)
theorem ErAt.grown {w w' : World} (h : ErAt w) (hg : w.grownBy w' none) : ErAt w' := by
  obtain ⟨⟨a, b, h1⟩, ⟨c, d, h2⟩⟩ := h
  exact ⟨⟨a, b, (World.cell?_of_block (w := w) (hg.block _ (World.block_lt_of_cell? w _ h1) (by simp))).trans h1⟩, ⟨c, d, (World.cell?_of_block (w := w) (hg.block _ (World.block_lt_of_cell? w _ h2) (by simp))).trans h2⟩⟩

theorem atoi_ok (l : List UInt8) (hl : l.length ≤ L48) (v : Int) (h : Lib.atoiAll l = .ok v) (w : World) :
    Calls Tryd.prog 54 #[.string (bs l)] w fun e w' => e = .returned (.tuple #[.int .i64 v, .nilIface]) ∧ w.grownBy w' none := by
  have hz := bs_size l
  unfold L48 at hl
  refine Calls.mono (Any.strconv_Atoi_ok Tryd.laysC172 (bs l) (by omega) v h w) fun e w' hh => ⟨hh.1, ?_⟩
  rcases hh.2 with rfl | ⟨t, rfl⟩
  · exact grownBy_refl _ _
  · exact gr_below (Lib.bytesWorld_below _ _ _)
theorem atoi_no (l : List UInt8) (hl : l.length ≤ L48) (h : ∀ v, Lib.atoiAll l ≠ .ok v) (w : World) (hE : ErAt w) :
    Calls Tryd.prog 54 #[.string (bs l)] w fun e w' => (∃ (n : Int) (N : Nat), e = .returned (.tuple #[.int .i64 n, .iface (Tryd.laysC172_ren.t 168) (.pointer (some ⟨N, 0, none⟩))])) ∧ w.grownBy w' none := by
  have hz := bs_size l
  unfold L48 at hl
  obtain ⟨⟨a, b, h1⟩, ⟨c, d, h2⟩⟩ := hE
  cases e : Lib.atoiAll l with
  | ok v => exact absurd e (h v)
  | range =>
    refine Calls.mono (Any.strconv_Atoi_range Tryd.laysC172 (bs l) (by omega) e _ w h2 (.inr ⟨_, _, rfl⟩)) fun e w' hh => ?_
    obtain ⟨N, he, _, _, hb⟩ := hh
    exact ⟨⟨_, N, he⟩, gr_below hb⟩
  | _ =>
    refine Calls.mono (Any.strconv_Atoi_syntax Tryd.laysC172 (bs l) (by omega) e _ w h1 (.inr ⟨_, _, rfl⟩)) fun e w' hh => ?_
    obtain ⟨N, he, _, _, hb⟩ := hh
    exact ⟨⟨_, N, he⟩, gr_below hb⟩
theorem itoa2_any (k : Nat) (h : k < 100) (w : World) :
    Calls Tryd.prog 30 #[.int .i64 (k : Int)] w fun e w' => e = .returned (.string (bs (decL k))) ∧ w' = w := by
  have hh := Any.strconv_Itoa_small Tryd.lays171 k h w
  have he : Lib.decDigits k = decL k := by
    rw [← itoa_dec h]; unfold Lib.itoa; rw [if_neg (by omega), Int.toNat_natCast]
  rw [he] at hh
  exact hh

end Go.Proofs.YtnkebgkocpeonaaDoor

/-
  The kind of deed that has a word; a number's text read.
-/
namespace Go.Proofs.YtnkebgkocpeonaaDoor
open Go.RowKit

theorem toL_bs (l : List UInt8) : (bs l).toList = l := by rw [ByteArray.toList_eq]; rfl
theorem bs_ne {l m : List UInt8} (h : m ≠ l) : (m == (bs l).toList) = false := by rw [toL_bs]; exact beq_false_of_ne h
theorem kind_at {l : List UInt8} {k : Nat} (hk : k < 7) (hall : ∀ j, j < k → wordsL.getD j [] ≠ l) (h : wordsL.getD k [] = l) : Ending.returned (.int .i64 (k : Int)) = .returned (.int .i64 (kindI l)) := by rw [kindI_at hall hk h]
theorem bs_inj {l m : List UInt8} (h : bs l = bs m) : l = m := by have := congrArg bl h; rwa [bl_bs, bl_bs] at this
theorem word_at {k : Nat} (hk : k < 7) : ∀ w, (Instr.index 51 (.agg #[.string ⟨#[99, 104, 97, 105, 110]⟩, .string ⟨#[115, 97, 121]⟩, .string ⟨#[110, 111, 116]⟩, .string ⟨#[116, 105, 109, 101, 115]⟩, .string ⟨#[105, 102]⟩, .string ⟨#[98, 97, 115, 105, 99]⟩, .string ⟨#[98, 97, 99, 107]⟩]) (.int .i64 (k : Int))).run Tryd.prog w = .ok (.string (bs (wordsL.getD k []))) w := by
  intro w
  rcases (show k = 0 ∨ k = 1 ∨ k = 2 ∨ k = 3 ∨ k = 4 ∨ k = 5 ∨ k = 6 by omega) with rfl | rfl | rfl | rfl | rfl | rfl | rfl
  all_goals kernel_rfl
def KdRel (l : List UInt8) (w : World) (i : Value) (wr : World) : Prop := ∃ k : Nat, k ≤ 7 ∧ i = .int .i64 k ∧ (∀ j, j < k → wordsL.getD j [] ≠ l) ∧ w = wr
set_option maxRecDepth 8000 in
set_option maxHeartbeats 4000000 in
theorem kind_any (l : List UInt8) (w : World) (hT : WdAt w) :
    Calls Tryd.prog 37 #[.string (bs l)] w fun e w' => e = .returned (.int .i64 (kindI l)) ∧ w = w' := by
  obtain ⟨c0, c1, c2, c3, c4, c5, c6⟩ := hT.facts
  go_enter Tryd.func37, Tryd.ntmps37
  go_wp2
  clear c0 c1 c2 c3 c4 c5 c6 hT
  go_loopw [6] (fun i wr => KdRel l w i wr) (fun i _ => 7 - (intOf i).toNat)
  case atStart => exact ⟨0, by omega, rfl, fun j hj => absurd hj (by omega), rfl⟩
  case round =>
    obtain ⟨k, hk, rfl, hall, rfl⟩ := hrel
    by_cases h7 : k = 7
    · subst h7
      go_wp2
      go_ret
      exact ⟨by rw [kindI_no hall]; rfl, rfl⟩
    · have hlt : (k : Int) < 7 := by omega
      have hi := word_at (k := k) (by omega)
      by_cases hl : wordsL.getD k [] = l
      · have HZ := Lib.hid (kind_at (by omega) hall hl)
        rw [hl] at hi
        clear hall hl h7
        go_wp2
        go_ret
        exact ⟨Eq.trans rfl HZ.out, rfl⟩
      · have hm : ∀ j, j < k + 1 → wordsL.getD j [] ≠ l := fun j hj => by
          by_cases e : j = k
          · rw [e]; exact hl
          · exact hall j (by omega)
        have hn := bs_ne hl
        rw [← toL_bs (wordsL.getD k [])] at hn
        have HM := Lib.hid hm
        clear hall hl hm h7
        generalize bs (wordsL.getD k []) = T at *
        go_wp2
        go_roundw
        case rel => exact ⟨k + 1, by omega, by go_num, HM.out, rfl⟩
        case measure => simp [intOf]; omega

/-- A number's text read. -/
def NumC (l : List UInt8) (w : World) : Prop := Calls Tryd.prog 38 #[.string (bs l)] w fun e w' => e = .returned (.int .i64 (numI l)) ∧ w.grownBy w' none
set_option maxHeartbeats 1600000 in
theorem numin_no (l : List UInt8) (hl : l.length ≤ L48) (h : ∀ v, Lib.atoiAll l ≠ .ok v) (w : World) (hE : ErAt w) : NumC l w := by
  have ca := atoi_no l hl h w hE
  have hx : numI l = -1 := by
    unfold numI
    cases e : Lib.atoiAll l with
    | ok v => exact absurd e (h v)
    | range => rfl
    | _ => rfl
  unfold NumC
  rw [hx]
  clear hx hE h
  go_enter Tryd.func38, Tryd.ntmps38
  go_wp2_with (first | (go_at_call 54; refine ca.mono ?_; rintro e w' ⟨⟨n, N, rfl⟩, hg⟩))
  go_ret
  exact ⟨rfl, hg⟩
set_option maxHeartbeats 1600000 in
theorem numin_ok (l : List UInt8) (hl : l.length ≤ L48) (v : Int) (h : Lib.atoiAll l = .ok v) (w : World) : NumC l w := by
  have ca := atoi_ok l hl v h w
  have hx : numI l = if 0 ≤ v ∧ v ≤ 99 ∧ Lib.itoa v = l then v else -1 := by unfold numI; rw [h]
  unfold NumC
  rw [hx]
  clear hx h
  by_cases h0 : 0 ≤ v
  · by_cases h9 : v ≤ 99
    · obtain ⟨k, rfl⟩ := Int.eq_ofNat_of_zero_le h0
      have ci := itoa2_any k (by omega)
      rw [itoa_dec (by omega)]
      have n0 : ¬ ((k : Int) < 0) := by omega
      have n9 : ¬ (99 < (k : Int)) := by omega
      by_cases he : decL k = l
      · rw [if_pos ⟨h0, h9, he⟩]
        subst he
        go_enter Tryd.func38, Tryd.ntmps38
        go_wp2_with (first | (go_at_call 54; refine ca.mono ?_; rintro e w' ⟨rfl, hg⟩) | (go_at_call 30; refine (ci _).mono ?_; rintro e w' ⟨rfl, rfl⟩))
        go_ret
        exact ⟨rfl, hg⟩
      · rw [if_neg fun hh => he hh.2.2]
        have hn := bs_ne he
        rw [← toL_bs (decL k)] at hn
        go_enter Tryd.func38, Tryd.ntmps38
        go_wp2_with (first | (go_at_call 54; refine ca.mono ?_; rintro e w' ⟨rfl, hg⟩) | (go_at_call 30; refine (ci _).mono ?_; rintro e w' ⟨rfl, rfl⟩))
        go_ret
        exact ⟨rfl, hg⟩
    · rw [if_neg fun hh => h9 hh.2.1]
      have n0 : ¬ (v < 0) := by omega
      have n9 : 99 < v := by omega
      go_enter Tryd.func38, Tryd.ntmps38
      go_wp2_with (first | (go_at_call 54; refine ca.mono ?_; rintro e w' ⟨rfl, hg⟩))
      all_goals go_ret
      all_goals exact ⟨rfl, hg⟩
  · rw [if_neg fun hh => h0 hh.1]
    have n0 : v < 0 := by omega
    go_enter Tryd.func38, Tryd.ntmps38
    go_wp2_with (first | (go_at_call 54; refine ca.mono ?_; rintro e w' ⟨rfl, hg⟩))
    all_goals go_ret
    all_goals exact ⟨rfl, hg⟩
theorem num_any (l : List UInt8) (hl : l.length ≤ L48) (w : World) (hE : ErAt w) : NumC l w := by
  by_cases h : ∃ v, Lib.atoiAll l = .ok v
  · obtain ⟨v, h⟩ := h; exact numin_ok l hl v h w
  · exact numin_no l hl (fun v e => h ⟨v, e⟩) w hE

end Go.Proofs.YtnkebgkocpeonaaDoor

/-
  The laws' markText: the text of a number behind an m.
-/
namespace Go.Proofs.YtnkebgkocpeonaaDoor
open Go.RowKit

def mtx (k : Nat) : List UInt8 := 109 :: decL k
def MtRel (k : Nat) (w : World) (kv ov : Value) (wr : World) : Prop := ∃ (j : Nat) (o : List UInt8), j ≤ k ∧ kv = .int .i64 j ∧ ov = .string (bs o) ∧ (0 < j → decL k = decL j ++ o) ∧ (j = 0 → decL k = o) ∧ o.length ≤ 30 ∧ w.grownBy wr none

end Go.Proofs.YtnkebgkocpeonaaDoor

/-
  A row of pairs in the call's own memory, marked.
-/
namespace Go.Proofs.YtnkebgkocpeonaaDoor
open Go.RowKit

/-- The pairs that the laws write into a row, from the mark k on. -/
def mkP (k : Nat) (i : Nat) : Ld := (((k + 2 * i : Nat) : Int), mtx (k + 2 * i + 1))
def mkRow (k n : Nat) : List Ld := (List.range n).map (mkP k)
theorem mkRow_len (k n : Nat) : (mkRow k n).length = n := by simp [mkRow]
theorem mkRow_at (k n i : Nat) (h : i < n) : (mkRow k n).getD i nilLd = mkP k i := by simp [mkRow, List.getD_eq_getElem?_getD, h]
/-- The row while it is marked: the first i are. -/
def MkCur (cur : Array Value) (off k n i : Nat) : Prop :=
  (∀ j, j < i → cur[off + j * 2]? = some (.int .i64 (mkP k j).1) ∧ cur[off + j * 2 + 1]? = some (.string (bs (mkP k j).2))) ∧ ∀ j, i ≤ j → j < n → ∃ u v, cur[off + j * 2]? = some u ∧ cur[off + j * 2 + 1]? = some v
theorem MkCur.next {cur : Array Value} {off k n i : Nat} (h : MkCur cur off k n i) (hi : i < n) : MkCur ((cur.setIfInBounds (off + i * 2) (.int .i64 (mkP k i).1)).setIfInBounds (off + i * 2 + 1) (.string (bs (mkP k i).2))) off k n (i + 1) := by
  obtain ⟨u, v, hu, hv⟩ := h.2 i (Nat.le_refl _) hi
  have su := (Array.getElem?_eq_some_iff.1 hu).1
  have sv := (Array.getElem?_eq_some_iff.1 hv).1
  refine ⟨fun j hj => ?_, fun j hj hn => ?_⟩
  · by_cases e : j = i
    · subst e
      refine ⟨?_, ?_⟩
      · rw [Array.getElem?_setIfInBounds_ne (by omega), Array.getElem?_setIfInBounds_self_of_lt su]
      · rw [Array.getElem?_setIfInBounds_self_of_lt (by simpa using sv)]
    · have := h.1 j (by omega)
      refine ⟨?_, ?_⟩
      · rw [Array.getElem?_setIfInBounds_ne (by omega), Array.getElem?_setIfInBounds_ne (by omega)]; exact this.1
      · rw [Array.getElem?_setIfInBounds_ne (by omega), Array.getElem?_setIfInBounds_ne (by omega)]; exact this.2
  · obtain ⟨x, y, h1, h2⟩ := h.2 j (by omega) hn
    refine ⟨x, y, ?_, ?_⟩
    · rw [Array.getElem?_setIfInBounds_ne (by omega), Array.getElem?_setIfInBounds_ne (by omega)]; exact h1
    · rw [Array.getElem?_setIfInBounds_ne (by omega), Array.getElem?_setIfInBounds_ne (by omega)]; exact h2

theorem grown_any {a b : World} {row : Option Nat} (h : a.grownBy b none) : a.grownBy b row := ⟨h.os, h.tape, h.output, h.size, fun k hk _ => h.block k hk (by simp)⟩

end Go.Proofs.YtnkebgkocpeonaaDoor

/-
  Marked rows of pairs read again; whole desks marked and read again.
-/
namespace Go.Proofs.YtnkebgkocpeonaaDoor
open Go.RowKit

def HlRelD (k n : Nat) (w : World) (kv iv : Value) (wr : World) : Prop := ∃ i : Nat, i ≤ n ∧ kv = .int .i64 ((k + 2 * i : Nat) : Int) ∧ iv = .int .i64 i ∧ w.grownBy wr none

end Go.Proofs.YtnkebgkocpeonaaDoor

/-
  The exact law of DeskNew: a desk without anything of before.
-/
namespace Go.Proofs.YtnkebgkocpeonaaDoor
open Go.RowKit

end Go.Proofs.YtnkebgkocpeonaaDoor

/-
  Deeds counted and copied; desks with rows marked and read again.
-/
namespace Go.Proofs.YtnkebgkocpeonaaDoor
open Go.RowKit

set_option maxHeartbeats 1000000 in
theorem szDeed_any (n k left : Int) (s : ByteArray) (w : World) (hl : 0 ≤ left ∧ left ≤ 1048576) (hs : s.size ≤ maxLen) :
    Calls Tryd.prog 21 #[.agg #[.int .i64 n, .int .i64 k, .string s], .int .i64 left] w fun e w' => e = .returned (.int .i64 (if (s.size : Int) ≤ left then left - s.size else -1)) ∧ w.grownBy w' none := by
  have hg := World.grownBy_alloc w (.cells #[.int .i64 n, .int .i64 k, .string s] 38) none
  unfold maxLen at hs
  have hw : IntKind.i64.wrap (left - (s.size : Int)) = left - (s.size : Int) := IntWalk.i64_in _ (by omega)
  have hw2 : wrap64 (left - (s.size : Int)) = left - (s.size : Int) := by unfold wrap64; omega
  by_cases h : (s.size : Int) ≤ left
  · rw [if_pos h]
    go_enter Tryd.func21, Tryd.ntmps21
    go_wp2
    go_ret
    exact ⟨rfl, hg⟩
  · rw [if_neg h]
    go_enter Tryd.func21, Tryd.ntmps21
    go_wp2
    go_ret
    exact ⟨rfl, hg⟩

set_option maxHeartbeats 1000000 in
theorem toDeed_any (n k : Int) (s : ByteArray) (w : World) :
    Calls Tryd.prog 22 #[.agg #[.int .i64 n, .int .i64 k, .string s]] w fun e w' => e = .returned (.agg #[.int .i64 n, .int .i64 k, .string s]) ∧ w.grownBy w' none := by
  go_enter Tryd.func22, Tryd.ntmps22
  go_wp2
  exact bodyPost_ret (v := .agg #[.int .i64 n, .int .i64 k, .string s]) (resDd rfl _ rfl ((CellsAt.second w _ _ _).grown (World.grownBy_alloc _ _ none))) rfl ⟨rfl, made3 _ _ _ _⟩

/-- What is left of a row that was marked: its pairs; nothing else changed but its own block. -/
def MarkedD (a : Option Addr) (k n : Nat) (w w' : World) : Prop := LdsAt w' a (mkRow k n) ∧ ∃ row : Option Nat, (∀ g, row = some g → 0 < n ∧ ∃ x, a = some x ∧ x.block = g) ∧ w.grownBy w' row

end Go.Proofs.YtnkebgkocpeonaaDoor

/-
  Rows of deeds: what lies in them; rows that a call made.
-/
namespace Go.Proofs.YtnkebgkocpeonaaDoor
open Go.RowKit

def nilDd : Dd := (0, 0, [])
/-- The cells of a row of deeds. -/
def ddC : List Dd → List Value
  | [] => []
  | x :: l => .int .i64 x.1 :: .int .i64 x.2.1 :: .string (bs x.2.2) :: ddC l
theorem ddC_len : ∀ l : List Dd, (ddC l).length = l.length * 3
  | [] => rfl
  | x :: l => by show (ddC l).length + 1 + 1 + 1 = (l.length + 1) * 3; rw [ddC_len l]; omega
theorem ddC_app : ∀ l m : List Dd, ddC (l ++ m) = ddC l ++ ddC m
  | [], m => rfl
  | x :: l, m => by show _ :: _ :: _ :: ddC (l ++ m) = _; rw [ddC_app l m]; rfl
theorem ddC_at : ∀ (l : List Dd) (i : Nat), i < l.length → (ddC l)[i * 3]? = some (.int .i64 (l.getD i nilDd).1) ∧ (ddC l)[i * 3 + 1]? = some (.int .i64 (l.getD i nilDd).2.1) ∧ (ddC l)[i * 3 + 2]? = some (.string (bs (l.getD i nilDd).2.2))
  | [], i, h => absurd h (by simp)
  | x :: l, 0, _ => ⟨rfl, rfl, rfl⟩
  | x :: l, i + 1, h => by
    have := ddC_at l i (by simpa using h)
    rw [show (i + 1) * 3 = i * 3 + 1 + 1 + 1 by omega]
    exact this
theorem ddC_one : ∀ (l : List Dd), ∀ u ∈ ddC l, u.oneCell' = true
  | [], u, h => absurd h (by simp [ddC])
  | x :: l, u, h => by
    rcases List.mem_cons.1 h with rfl | h
    · rfl
    · rcases List.mem_cons.1 h with rfl | h
      · rfl
      · rcases List.mem_cons.1 h with rfl | h
        · rfl
        · exact ddC_one l u h
theorem ddC_get {l : List Dd} {j : Nat} {u : Value} (h : (ddC l)[j]? = some u) : ∃ i, i < l.length ∧ ((j = i * 3 ∧ u = .int .i64 (l.getD i nilDd).1) ∨ (j = i * 3 + 1 ∧ u = .int .i64 (l.getD i nilDd).2.1) ∨ (j = i * 3 + 2 ∧ u = .string (bs (l.getD i nilDd).2.2))) := by
  have hj := (List.getElem?_eq_some_iff.1 h).1
  rw [ddC_len] at hj
  have hi : j / 3 < l.length := by omega
  have hc := ddC_at l (j / 3) hi
  refine ⟨j / 3, hi, ?_⟩
  have hm : j % 3 = 0 ∨ j % 3 = 1 ∨ j % 3 = 2 := by omega
  rcases hm with e | e | e
  · have ej : j = j / 3 * 3 := by omega
    rw [ej] at h
    have := h.symm.trans hc.1
    exact .inl ⟨ej, by simpa using this⟩
  · have ej : j = j / 3 * 3 + 1 := by omega
    rw [ej] at h
    have := h.symm.trans hc.2.1
    exact .inr (.inl ⟨ej, by simpa using this⟩)
  · have ej : j = j / 3 * 3 + 2 := by omega
    rw [ej] at h
    have := h.symm.trans hc.2.2
    exact .inr (.inr ⟨ej, by simpa using this⟩)

/-- A row of deeds as it can be read. -/
def DdsAt (w : World) (a : Option Addr) (xs : List Dd) : Prop :=
  xs.length ≤ maxLen ∧ (xs = [] ∨ ∃ b off, a = some ⟨b, off, none⟩ ∧ b < w.heap.size ∧ ∀ i, i < xs.length → w.cell? ⟨b, off + i * 3, none⟩ = some (.int .i64 (xs.getD i nilDd).1) ∧ w.cell? ⟨b, off + i * 3 + 1, none⟩ = some (.int .i64 (xs.getD i nilDd).2.1) ∧ w.cell? ⟨b, off + i * 3 + 2, none⟩ = some (.string (bs (xs.getD i nilDd).2.2)))
theorem DdsAt.kept {w w' : World} {a : Option Addr} {xs : List Dd} {row : Option Nat} (h : DdsAt w a xs) (hg : w.grownBy w' row) (hne : ∀ x, a = some x → some x.block ≠ row) : DdsAt w' a xs := by
  refine ⟨h.1, ?_⟩
  rcases h.2 with h | ⟨b, off, ha, hb, hc⟩
  · exact .inl h
  · exact .inr ⟨b, off, ha, Nat.lt_of_lt_of_le hb hg.size, fun i hi => ⟨(World.cell?_of_block (w := w) (a := ⟨b, off + i * 3, none⟩) (hg.block b hb (hne _ ha))).trans (hc i hi).1, (World.cell?_of_block (w := w) (a := ⟨b, off + i * 3 + 1, none⟩) (hg.block b hb (hne _ ha))).trans (hc i hi).2.1, (World.cell?_of_block (w := w) (a := ⟨b, off + i * 3 + 2, none⟩) (hg.block b hb (hne _ ha))).trans (hc i hi).2.2⟩⟩
theorem DdsAt.grown {w w' : World} {a : Option Addr} {xs : List Dd} (h : DdsAt w a xs) (hg : w.grownBy w' none) : DdsAt w' a xs := h.kept hg (by simp)
theorem DdsAt.nil (w : World) (a : Option Addr) : DdsAt w a [] := ⟨by simp, .inl rfl⟩
theorem DdsAt.take {w : World} {a : Option Addr} {xs : List Dd} (h : DdsAt w a xs) (n : Nat) : DdsAt w a (xs.take n) := by
  refine ⟨Nat.le_trans (by rw [List.length_take]; omega) h.1, ?_⟩
  rcases h.2 with h | ⟨b, off, ha, hb, hc⟩
  · exact .inl (by rw [h, List.take_nil])
  · refine .inr ⟨b, off, ha, hb, fun i hi => ?_⟩
    rw [List.length_take] at hi
    have e : (xs.take n).getD i nilDd = xs.getD i nilDd := by
      rw [List.getD_eq_getElem?_getD, List.getD_eq_getElem?_getD, List.getElem?_take, if_pos (by omega)]
    rw [e]
    exact hc i (by omega)
theorem DdsAt.drop {w : World} {b off : Nat} {xs : List Dd} (h : DdsAt w (some ⟨b, off, none⟩) xs) (n : Nat) : DdsAt w (some ⟨b, off + n * 3, none⟩) (xs.drop n) := by
  refine ⟨Nat.le_trans (by rw [List.length_drop]; omega) h.1, ?_⟩
  rcases h.2 with h | ⟨b', off', ha, hb, hc⟩
  · exact .inl (by rw [h, List.drop_nil])
  · cases ha
    refine .inr ⟨b, off + n * 3, rfl, hb, fun i hi => ?_⟩
    rw [List.length_drop] at hi
    have e : (xs.drop n).getD i nilDd = xs.getD (n + i) nilDd := by
      rw [List.getD_eq_getElem?_getD, List.getD_eq_getElem?_getD, List.getElem?_drop]
    have k := hc (n + i) (by omega)
    rw [show off + (n + i) * 3 = off + n * 3 + i * 3 by omega] at k
    rw [e]
    exact k

/-- A row of deeds that the call owns, from its block's first cell on. -/
def Own3 (w : World) (base : Nat) (a : Option Addr) (cap : Nat) (xs : List Dd) : Prop :=
  w.ownsRow base 24 3 (.slice a xs.length cap) xs.length (ddC xs)
theorem own3_shape {w : World} {base n : Nat} {v : Value} {zs : List Dd} (h : w.ownsRow base 24 3 v n (ddC zs)) : ∃ a cap, v = .slice a zs.length cap ∧ n = zs.length ∧ Own3 w base a cap zs := by
  have hl := h.1
  rw [ddC_len] at hl
  obtain rfl : n = zs.length := by omega
  rcases h.2 with ⟨rfl, h0⟩ | ⟨g, cap, cur, rfl, h1⟩
  · exact ⟨none, 0, by rw [h0], rfl, by unfold Own3; rw [h0]; rw [h0] at h; exact h⟩
  · exact ⟨some ⟨g, 0, none⟩, cap, rfl, rfl, h⟩
theorem Own3.nil (w : World) (base : Nat) : Own3 w base none 0 [] := World.ownsRow_nil _ _ _ _
theorem Own3.made (w : World) : Own3 (w.alloc (.cells #[] 24)) w.heap.size (some ⟨w.heap.size, 0, none⟩) 0 [] := World.ownsRow_made w #[] 0 (Nat.le_refl _) (Nat.zero_le _) rfl
theorem Own3.kept {w w' : World} {base : Nat} {a : Option Addr} {cap : Nat} {zs : List Dd} (h : Own3 w base a cap zs) (hg : w.grownBy w' none) : Own3 w' base a cap zs :=
  World.ownsRow.kept h hg (by cases (Value.slice a zs.length cap).ownBlock <;> simp)
theorem Own3.past {w w' : World} {base b : Nat} {a : Option Addr} {cap : Nat} {zs : List Dd} (h : Own3 w base a cap zs) (hg : w.grownBy w' (some b)) (hb : b < base) : Own3 w' base a cap zs :=
  World.ownsRow.kept h hg (.inr fun e => by have := World.ownsRow.lt h _ e; omega)
theorem Own3.bare {w : World} {base : Nat} {a : Option Addr} {cap : Nat} {zs : List Dd} (h : Own3 w base a cap zs) : a = none → cap = 0 := by
  intro e
  subst e
  rcases h.2 with ⟨h0, _⟩ | ⟨g, c, cur, he, _⟩
  · simp only [Value.slice.injEq] at h0; exact h0.2.2
  · simp at he
theorem Own3.room {w : World} {base : Nat} {a : Option Addr} {cap : Nat} {zs : List Dd} (h : Own3 w base a cap zs) : zs.length ≤ cap ∧ cap ≤ maxLen := by
  rcases h.2 with ⟨h0, h1⟩ | ⟨g, c, cur, he, _, _, hn, hc, _⟩
  · simp only [Value.slice.injEq] at h0
    rw [h1, h0.2.2]; exact ⟨Nat.le_refl _, Nat.zero_le _⟩
  · simp only [Value.slice.injEq, true_and] at he
    rw [he.2]; exact ⟨hn, hc⟩
theorem Own3.mono {w : World} {base base' : Nat} {a : Option Addr} {cap : Nat} {zs : List Dd} (h : Own3 w base a cap zs) (hb : base' ≤ base) : Own3 w base' a cap zs := by
  refine ⟨h.1, ?_⟩
  rcases h.2 with h | ⟨g, c, cur, h1, h2, h3⟩
  · exact .inl h
  · exact .inr ⟨g, c, cur, h1, Nat.le_trans hb h2, h3⟩
theorem Own3.curs {w : World} {base : Nat} {a : Option Addr} {cap : Nat} {zs : List Dd} (h : Own3 w base a cap zs) : zs = [] ∨ ∃ (g : Nat) (cur : Array Value), a = some ⟨g, 0, none⟩ ∧ base ≤ g ∧ w.heap[g]? = some (.cells cur 24 (0, 0)) ∧ ∀ i, i < zs.length → cur[i * 3]? = some (.int .i64 (zs.getD i nilDd).1) ∧ cur[i * 3 + 1]? = some (.int .i64 (zs.getD i nilDd).2.1) ∧ cur[i * 3 + 2]? = some (.string (bs (zs.getD i nilDd).2.2)) := by
  rcases h.2 with ⟨_, h0⟩ | ⟨g, c, cur, he, hb, hg, hnc, hcm, hcs, htake⟩
  · exact .inl (List.length_eq_zero_iff.1 h0)
  · simp only [Value.slice.injEq, true_and] at he
    obtain ⟨rfl, rfl⟩ := he
    refine .inr ⟨g, cur, rfl, hb, hg, fun i hi => ?_⟩
    have k := ddC_at zs i hi
    rw [← htake, List.getElem?_take, if_pos (by omega), List.getElem?_take, if_pos (by omega), List.getElem?_take, if_pos (by omega)] at k
    simpa using k
theorem Own3.at {w : World} {base : Nat} {a : Option Addr} {cap : Nat} {zs : List Dd} (h : Own3 w base a cap zs) : DdsAt w a zs := by
  refine ⟨Nat.le_trans h.room.1 h.room.2, ?_⟩
  rcases h.curs with h | ⟨g, cur, ha, hb, hg, hc⟩
  · exact .inl h
  · refine .inr ⟨g, 0, ha, (Array.getElem?_eq_some_iff.1 hg).1, fun i hi => ?_⟩
    rw [cell_of_row w g _ cur _ (0, 0) hg, cell_of_row w g _ cur _ (0, 0) hg, cell_of_row w g _ cur _ (0, 0) hg, Nat.zero_add]
    exact hc i hi

theorem infoDd : (Tryd.prog.info? 24).map (fun i => (i.zero, i.size, i.bytes)) = some (some (.agg #[.int .i64 0, .int .i64 0, .string ⟨#[]⟩]), 3, 32) := by kernel_rfl

def DdsPost (xs : List Dd) (w : World) (e : Ending) (w' : World) : Prop :=
  ∃ a cap, e = .returned (.slice a xs.length cap) ∧ Own3 w' w.heap.size a cap xs ∧ w.grownBy w' none
theorem grow_own3 {a b c : World} {base : Nat} {v : Value} {n : Nat} {xs : List Value} {e : TypeId} (h : a.grownBy b none) (ho : b.ownsRow base e 3 v n xs) (hb : a.heap.size ≤ base) (k : b.grownBy c v.ownBlock) : a.grownBy c none :=
  ⟨k.os.trans h.os, k.tape.trans h.tape, k.output.trans h.output, Nat.le_trans h.size k.size, fun i hi _ => by
    refine (k.block i (Nat.lt_of_lt_of_le hi h.size) fun e => ?_).trans (h.block i hi (by simp))
    have := World.ownsRow.lt ho i e.symm
    omega⟩

end Go.Proofs.YtnkebgkocpeonaaDoor

/-
  Ahead of the draw of a desk: what lies where between the deeds.
-/
namespace Go.Proofs.YtnkebgkocpeonaaDoor
open Go.RowKit
theorem doR_len {d : Dk} {D : Dd} (h : (doR d D).2 = true) : (doR d D).1.2.length ≤ d.2.length + 1 := by
  unfold doR at h ⊢
  split at h
  · rename_i hd
    rw [if_pos hd]
    cases hq : doD d D with
    | none => rw [hq] at h; cases h
    | some e =>
      show e.2.length ≤ d.2.length + 1
      rcases doD_of hq with ⟨_, p, _, rfl⟩ | ⟨_, y, _, rfl⟩
      · show d.2.dropLast.length ≤ _
        rw [List.length_dropLast]; omega
      · show (capP (d.2 ++ [d.1])).length ≤ _
        unfold capP
        rw [List.length_drop, List.length_append, List.length_singleton]; omega
  · cases h
theorem grown_none {a b : World} {row : Option Nat} (h : a.grownBy b none) : a.grownBy b row := ⟨h.os, h.tape, h.output, h.size, fun k hk _ => h.block k hk (by simp)⟩

theorem rd_put {wd w' : World} {r P b : Nat} (hr : Rd wd r P) (hg : wd.grownBy w' (some b)) (hb : r < b) : Rd w' r P := hr.kept fun k hk => hg.block k (by have := hr.lt; omega) (by simp; omega)
theorem grown_put {w wd w' : World} {r b : Nat} (h : w.grownBy wd (some r)) (hg : wd.grownBy w' (some b)) (hb : w.heap.size ≤ b) : w.grownBy w' (some r) :=
  ⟨hg.os.trans h.os, hg.tape.trans h.tape, hg.output.trans h.output, Nat.le_trans h.size hg.size, fun k hk hn => (hg.block k (Nat.lt_of_lt_of_le hk h.size) (by simp; omega)).trans (h.block k hk hn)⟩
/-- What is told of the draw of a deed. -/
def DeedC : Prop := ∀ (w : World) (r P : Nat), Rd w r P → P ≤ 60000 → Calls Tryd.prog 27 #[.pointer (some ⟨r, 0, none⟩)] w fun e w' => ∃ D : Dd, e = .returned (.agg #[.int .i64 D.1, .int .i64 D.2.1, .string (bs D.2.2)]) ∧ D.2.2.length ≤ 100 ∧ Rd w' r (P + 100) ∧ w.grownBy w' (some r)

end Go.Proofs.YtnkebgkocpeonaaDoor

/-
  A deed's text read: impl's ReadDeed.
-/
namespace Go.Proofs.YtnkebgkocpeonaaDoor
open Go.RowKit

theorem resDdB {fn : Func} {p u : Tmp} (h : fn.results = #[.cell p 24, .tmp u]) (tmps : Array Value) {w : World} {B : Nat} {x y z b : Value} (hp : tmps.getD p undef = .pointer (some ⟨B, 0, none⟩)) (hu : tmps.getD u undef = b) (hB : CellsAt w B #[x, y, z] 24) :
    (results fn tmps).run Tryd.prog w = .ok (.tuple #[.agg #[x, y, z], b]) w := by
  rw [results_cell_tmp h, hp, hu]
  have := run_loadVar_row w B 24 24 #[x, y, z] (0, 0) _ hB Tryd.underlying24 rfl sizeDd
  simp only [asAddr, Sem.run_pure, Result.andThen_ok, this]
/-- What is answered where a text is read. -/
def rdV (l : List UInt8) : Value := match rdD l with | some a => .tuple #[ddV a, .bool true] | none => .tuple #[ddV nilDd, .bool false]
def RdDPost (l : List UInt8) (w : World) (e : Ending) (w' : World) : Prop := e = .returned (rdV l) ∧ w.grownBy w' none
theorem rdV_some {l : List UInt8} {a : Dd} (h : rdD l = some a) : rdV l = .tuple #[ddV a, .bool true] := by unfold rdV; rw [h]
theorem rdV_none {l : List UInt8} (h : rdD l = none) : rdV l = .tuple #[ddV nilDd, .bool false] := by unfold rdV; rw [h]

theorem ErAt.past {w w' : World} {b : Nat} (h : ErAt w) (hg : w.grownBy w' (some b)) (hs : 3 ≠ b) (hr : 4 ≠ b) : ErAt w' := by
  obtain ⟨⟨a, b, h1⟩, ⟨c, d, h2⟩⟩ := h
  exact ⟨⟨a, b, (World.cell?_of_block (w := w) (hg.block _ (World.block_lt_of_cell? w _ h1) (by simpa using hs))).trans h1⟩, ⟨c, d, (World.cell?_of_block (w := w) (hg.block _ (World.block_lt_of_cell? w _ h2) (by simpa using hr))).trans h2⟩⟩
theorem WdAt.past {w w' : World} {b : Nat} (h : WdAt w) (hg : w.grownBy w' (some b)) (hb : 0 ≠ b) : WdAt w' :=
  ⟨Nat.lt_of_lt_of_le h.1 hg.size, fun i hi => (World.cell?_of_block (w := w) (hg.block _ h.1 (by simpa using hb))).trans (h.2 i hi)⟩
theorem ErAt.lt {w : World} (h : ErAt w) : 3 < w.heap.size ∧ 4 < w.heap.size := by
  obtain ⟨⟨a, b, h1⟩, ⟨c, d, h2⟩⟩ := h
  exact ⟨World.block_lt_of_cell? w _ h1, World.block_lt_of_cell? w _ h2⟩

/-- What lies where while a text is read: the answer's box, the deed's box. -/
def RdS (w W : World) (b : Nat) (u v x : Value) : Prop := CellsAt W w.heap.size #[.int .i64 0, .int .i64 0, .string ⟨#[]⟩] 24 ∧ CellsAt W b #[u, v, x] 24 ∧ WdAt W ∧ ErAt W ∧ w.grownBy W none ∧ w.heap.size < b ∧ WdAt w ∧ ErAt w
theorem RdS.new {w w1 : World} (hT : WdAt w) (hE : ErAt w) (hg : (w.alloc (.cells #[.int .i64 0, .int .i64 0, .string ⟨#[]⟩] 24)).grownBy w1 none) (u v x : Value) : RdS w (w1.alloc (.cells #[u, v, x] 24)) w1.heap.size u v x :=
  have g := grownBy_trans (grownBy_trans (World.grownBy_alloc _ _ none) hg) (World.grownBy_alloc w1 (.cells #[u, v, x] 24) none)
  have h1 := (CellsAt.new w #[.int .i64 0, .int .i64 0, .string ⟨#[]⟩] 24).grown hg
  ⟨h1.grown (World.grownBy_alloc _ _ none), CellsAt.new _ _ _, hT.grown g, hE.grown g, g, h1.lt, hT, hE⟩
theorem RdS.grown {w W W' : World} {b : Nat} {u v x : Value} (h : RdS w W b u v x) (g : W.grownBy W' none) : RdS w W' b u v x :=
  ⟨h.1.grown g, h.2.1.grown g, h.2.2.1.grown g, h.2.2.2.1.grown g, grownBy_trans h.2.2.2.2.1 g, h.2.2.2.2.2⟩
theorem RdS.set {w W : World} {b : Nat} {u v x : Value} (h : RdS w W b u v x) (y z : Value) : RdS w ((W.setCell ⟨b, 1, none⟩ y).setCell ⟨b, 2, none⟩ z) b u y z := by
  obtain ⟨h1, h2, h3, h4, h5, h6, h7, h8⟩ := h
  have l1 := h7.1
  have l2 := h8.lt
  have g1 := grownBy_set W b 1 y
  have g2 := grownBy_set (W.setCell ⟨b, 1, none⟩ y) b 2 z
  exact ⟨(h1.kept g1 (by simp; omega)).kept g2 (by simp; omega), (h2.set 1 y).set 2 z, (h3.past g1 (by omega)).past g2 (by omega), (h4.past g1 (by omega) (by omega)).past g2 (by omega) (by omega), grownBy_put (grownBy_put h5 (by omega) 1 y) (by omega) 2 z, h6, h7, h8⟩
theorem RdS.facts {w W : World} {b : Nat} {u v x : Value} (h : RdS w W b u v x) : ((W.cell? ⟨b, 0, none⟩ = some u ∧ W.cell? ⟨b, 1, none⟩ = some v ∧ W.cell? ⟨b, 2, none⟩ = some x) ∧ W.frozen? ⟨b, 0, none⟩ = false ∧ W.frozen? ⟨b, 1, none⟩ = false ∧ W.frozen? ⟨b, 2, none⟩ = false) ∧ (W.cell? ⟨w.heap.size, 0, none⟩ = some (.int .i64 0) ∧ W.cell? ⟨w.heap.size, 1, none⟩ = some (.int .i64 0) ∧ W.cell? ⟨w.heap.size, 2, none⟩ = some (.string ⟨#[]⟩)) ∧ W.frozen? ⟨w.heap.size, 0, none⟩ = false ∧ W.frozen? ⟨w.heap.size, 1, none⟩ = false ∧ W.frozen? ⟨w.heap.size, 2, none⟩ = false := ⟨set_facts h.2.1, set_facts h.1⟩
theorem RdS.fin {w W : World} {b : Nat} {u v x : Value} (h : RdS w W b u v x) (p q r : Value) : CellsAt (((W.setCell ⟨w.heap.size, 0, none⟩ p).setCell ⟨w.heap.size, 1, none⟩ q).setCell ⟨w.heap.size, 2, none⟩ r) w.heap.size #[p, q, r] 24 ∧ w.grownBy (((W.setCell ⟨w.heap.size, 0, none⟩ p).setCell ⟨w.heap.size, 1, none⟩ q).setCell ⟨w.heap.size, 2, none⟩ r) none :=
  ⟨h.1.put3 _ _ _, grownBy_put (grownBy_put (grownBy_put h.2.2.2.2.1 (Nat.le_refl _) 0 p) (Nat.le_refl _) 1 q) (Nat.le_refl _) 2 r⟩

set_option maxRecDepth 8000 in
set_option maxHeartbeats 4000000 in
theorem ird_nil (w : World) (hT : WdAt w) (hE : ErAt w) :
    Calls Tryd.prog 13 #[.string ⟨#[]⟩] w (RdDPost [] w) := by
  have cc := cut_any [] 32
  have ek : kindI (Lib.cut [] [32]).1 = -1 := by decide +kernel
  have hw := rdV_none (wrote_no (s := []) (.inl rfl))
  unfold RdDPost
  rw [hw]
  unfold CutD at cc
  unfold ddV nilDd
  have HT := Lib.hid hT
  have HE := Lib.hid hE
  clear hT hw hE
  go_enter Tryd.func13, Tryd.ntmps13
  go_wp2_with (first | (go_at_call 36; refine (cc _ (by decide)).mono ?_; rintro e w1 ⟨rfl, hg⟩; have hT1 := HT.out.grown (grownBy_trans (World.grownBy_alloc _ _ none) hg); have S0 := Lib.hid (RdS.new HT.out HE.out hg (.int .i64 (-1)) (.int .i64 0) (.string (bs (Lib.cut [] [32]).2.1))); obtain ⟨⟨⟨x0, x1, x2⟩, y0, y1, y2⟩, ⟨z0, z1, z2⟩, v0, v1, v2⟩ := S0.out.facts; clear hg) | (go_at_call 37; refine (kind_any _ _ hT1).mono ?_; rw [ek]; rintro e w2 ⟨rfl, rfl⟩))
  have E := S0.out.fin (.int .i64 0) (.int .i64 0) (.string ⟨#[]⟩)
  exact bodyPost_ret (resDdB rfl _ rfl rfl E.1) rfl ⟨rfl, E.2⟩

set_option maxRecDepth 8000 in
set_option maxHeartbeats 4000000 in
/-- Another word than a chain's. -/
theorem ird_word (l : List UInt8) (K : Int) (T B : List UInt8) (f : Bool) (w : World) (hT : WdAt w) (hE : ErAt w) (h0 : l ≠ []) (ht : (Lib.cut l [32]) = (T, B, f)) (hk : kindI T = K) (hK : K ≠ 0) (hl : l.length ≤ L48) :
    Calls Tryd.prog 13 #[.string (bs l)] w (RdDPost l w) := by
  have cc := cut_any l 32
  have hw : wroteA l = (K, 0, B) := by unfold wroteA; rw [ht, hk]; exact if_neg hK
  have he := empty_bs h0
  have hK0 : (K == 0) = false := beq_false_of_ne hK
  unfold CutD at cc
  rw [ht] at cc
  unfold RdDPost
  have HT := Lib.hid hT
  have HE := Lib.hid hE
  have HL := Lib.hid hl
  have HK := Lib.hid hk
  have ci := fun w hT => itx_any (K, 0, B) w hT
  unfold TxPost ddV at ci
  clear hT hE hl hk hK ht
  by_cases hx : txD (K, 0, B) = l
  · have hr := rdV_some (wrote_yes h0 (by rw [hw]; exact hx))
    rw [hw] at hr
    rw [hr]
    rw [hx] at ci
    unfold ddV
    clear hr hw hx h0
    go_enter Tryd.func13, Tryd.ntmps13
    go_wp2_with (first | (go_at_call 36; refine (cc _ HL.out).mono ?_; rintro e w1 ⟨rfl, hg⟩; have hT1 := HT.out.grown (grownBy_trans (World.grownBy_alloc _ _ none) hg); have S0 := Lib.hid (RdS.new HT.out HE.out hg (.int .i64 K) (.int .i64 0) (.string (bs B))); obtain ⟨⟨⟨x0, x1, x2⟩, y0, y1, y2⟩, ⟨z0, z1, z2⟩, v0, v1, v2⟩ := S0.out.facts; clear hg) | (go_at_call 37; refine (kind_any _ _ hT1).mono ?_; rw [HK.out]; rintro e w2 ⟨rfl, rfl⟩) | (go_at_call 10; refine (ci _ S0.out.2.2.1).mono ?_; rintro e w2 ⟨rfl, hg⟩; have S1 := Lib.hid (S0.out.grown hg); obtain ⟨⟨⟨p0, p1, p2⟩, q0, q1, q2⟩, ⟨r0, r1, r2⟩, s0, s1, s2⟩ := S1.out.facts; clear hg))
    have E := S1.out.fin (.int .i64 K) (.int .i64 0) (.string (bs B))
    exact bodyPost_ret (resDdB rfl _ rfl rfl E.1) rfl ⟨rfl, E.2⟩
  · have hr := rdV_none (wrote_no (s := l) (.inr (by rw [hw]; exact hx)))
    rw [hr]
    have hne := bs_ne hx
    rw [← toL_bs (txD (K, 0, B))] at hne
    generalize txD (K, 0, B) = X at *
    unfold ddV nilDd
    clear hr hw hx h0
    go_enter Tryd.func13, Tryd.ntmps13
    go_wp2_with (first | (go_at_call 36; refine (cc _ HL.out).mono ?_; rintro e w1 ⟨rfl, hg⟩; have hT1 := HT.out.grown (grownBy_trans (World.grownBy_alloc _ _ none) hg); have S0 := Lib.hid (RdS.new HT.out HE.out hg (.int .i64 K) (.int .i64 0) (.string (bs B))); obtain ⟨⟨⟨x0, x1, x2⟩, y0, y1, y2⟩, ⟨z0, z1, z2⟩, v0, v1, v2⟩ := S0.out.facts; clear hg) | (go_at_call 37; refine (kind_any _ _ hT1).mono ?_; rw [HK.out]; rintro e w2 ⟨rfl, rfl⟩) | (go_at_call 10; refine (ci _ S0.out.2.2.1).mono ?_; rintro e w2 ⟨rfl, hg⟩; have S1 := Lib.hid (S0.out.grown hg); obtain ⟨⟨⟨p0, p1, p2⟩, q0, q1, q2⟩, ⟨r0, r1, r2⟩, s0, s1, s2⟩ := S1.out.facts; clear hg))
    have E := S1.out.fin (.int .i64 0) (.int .i64 0) (.string ⟨#[]⟩)
    exact bodyPost_ret (resDdB rfl _ rfl rfl E.1) rfl ⟨rfl, E.2⟩

end Go.Proofs.YtnkebgkocpeonaaDoor

/-
  A text parted at a byte, as the model parts it.
-/
namespace Go.Proofs.YtnkebgkocpeonaaDoor
open Go.RowKit

theorem infoTx : (Tryd.prog.info? 9).map (fun i => (i.zero, i.size, i.bytes)) = some (some (.string ⟨#[]⟩), 1, 16) := by kernel_rfl
theorem ext_bs (l : List UInt8) (f k : Nat) : (bs l).extract f k = bs ((l.drop f).take (k - f)) := by
  refine bl_inj ?_
  show ((bs l).extract f k).data.toList = _
  rw [bl_bs, ByteArray.data_extract, Array.toList_extract]
  show List.take (k - f) (List.drop f l) = _
  rfl
theorem txC_snoc (L : List (List UInt8)) (c : List UInt8) : (L.map fun x => Value.string (bs x)) ++ [Value.string (bs c)] = (L ++ [c]).map fun x => Value.string (bs x) := by simp
theorem onetx_news (w : World) (s : ByteArray) : ∀ j u, ([Value.string s] : List Value)[j]? = some u → (w.alloc (.cells #[.string s] 9)).cell? ((⟨w.heap.size, 0, none⟩ : Addr).add j) = some u := by
  intro j u hj
  match j, hj with
  | 0, hj => simp at hj; subst hj; simp [Addr.add]
theorem onetx_cell (s : ByteArray) : ∀ u ∈ ([Value.string s] : List Value), u.oneCell' = true := by intro u hu; simp at hu; subst hu; rfl
/-- What was parted so far, and what is left. -/
def CtRel (p : UInt8) (l : List UInt8) (w : World) (v fv kv : Value) (wr : World) : Prop :=
  ∃ (L : List (List UInt8)) (f k : Nat), f ≤ k ∧ k ≤ l.length ∧ fv = .int .i64 f ∧ kv = .int .i64 k ∧ L.length ≤ k ∧ cutL p l = L ++ cutG p ((l.drop f).take (k - f)) (l.drop k) ∧ wr.ownsRow w.heap.size 9 1 v L.length (L.map fun x => Value.string (bs x)) ∧ w.grownBy wr none

theorem grTx_row {a b c : World} {base : Nat} {v : Value} {n : Nat} {xs : List Value} {e : TypeId} (h : a.grownBy b none) (ho : b.ownsRow base e 1 v n xs) (hb : a.heap.size ≤ base) (k : b.grownBy c v.ownBlock) : a.grownBy c none :=
  ⟨k.os.trans h.os, k.tape.trans h.tape, k.output.trans h.output, Nat.le_trans h.size k.size, fun i hi hne => by
    refine (k.block i (Nat.lt_of_lt_of_le hi h.size) fun e => ?_).trans (h.block i hi hne)
    have := World.ownsRow.lt ho i e.symm
    omega⟩
/-- The texts as they lie. -/
def TxsAt (w : World) (a : Option Addr) (L : List (List UInt8)) : Prop := ∃ g, a = some ⟨g, 0, none⟩ ∧ ∀ i, i < L.length → w.cell? ⟨g, i, none⟩ = some (.string (bs (L.getD i [])))
theorem TxsAt.grown {w w' : World} {a : Option Addr} {L : List (List UInt8)} (h : TxsAt w a L) (hg : w.grownBy w' none) : TxsAt w' a L := by
  obtain ⟨g, ha, hc⟩ := h
  exact ⟨g, ha, fun i hi => (World.cell?_of_block (w := w) (hg.block _ (World.block_lt_of_cell? w _ (hc i hi)) (by simp))).trans (hc i hi)⟩
theorem own_txs {w : World} {base : Nat} {v : Value} {L : List (List UInt8)} (h : w.ownsRow base 9 1 v L.length (L.map fun x => Value.string (bs x))) (hL : 1 ≤ L.length) : ∃ a cap, v = .slice a L.length cap ∧ TxsAt w a L := by
  rcases h.2 with ⟨rfl, h0⟩ | ⟨g, cap, cur, rfl, hb, _, hlc, hcc, _⟩
  · omega
  · refine ⟨some ⟨g, 0, none⟩, cap, rfl, g, rfl, fun i hi => ?_⟩
    have := World.ownsRow.cellAt h i (by omega)
    rw [this]
    simp [List.getD_eq_getElem?_getD, hi]
def ScPost (p : UInt8) (l : List UInt8) (w : World) (e : Ending) (w' : World) : Prop := ∃ a cap, e = .returned (.slice a (cutL p l).length cap) ∧ TxsAt w' a (cutL p l) ∧ w.grownBy w' none

set_option maxRecDepth 100000 in
set_option maxHeartbeats 4000000 in
theorem scut_any (p : UInt8) (l : List UInt8) (hl : l.length ≤ 2097152) (w : World) :
    Calls Tryd.prog 41 #[.string (bs l), .int .u8 (p.toNat : Int)] w (ScPost p l w) := by
  have hz := bs_size l
  obtain ⟨i0, hi, hz0, hz1, hz2⟩ := info_parts infoTx
  have o1 := World.ownsRow_lit (e := 9) (size := 1) w #[] 0 (Nat.le_refl _) (by unfold maxLen; omega) rfl
  have g1 := World.grownBy_alloc w (.cells #[] 9) none
  go_enter Tryd.func41, Tryd.ntmps41
  go_wp2
  go_loopw [5, 6, 7] (fun v fv kv wr => CtRel p l w v fv kv wr) (fun _ _ kv _ => l.length - (intOf kv).toNat)
  case atStart => exact ⟨[], 0, 0, by omega, by omega, rfl, rfl, by simp, by simp [cutL], o1, g1⟩
  case round =>
    obtain ⟨L, f, k, hfk, hkl, rfl, rfl, hLk, hcut, hown, hgr⟩ := hrel
    have e9 := ext_bs l f k
    have hA := World.ownsRow.alloc hown (.cells #[.string ((bs l).extract f k)] 9)
    by_cases hlt : k < l.length
    · obtain ⟨c, r, hd⟩ : ∃ c r, l.drop k = c :: r := by
        cases hx : l.drop k with
        | nil => have := congrArg List.length hx; simp at this; omega
        | cons c r => exact ⟨c, r, rfl⟩
      have hidx := idx_run (s := bs l) (p := k) hd
      have hd1 : l.drop (k + 1) = r := by rw [← List.drop_drop, hd]; rfl
      have w1 : wrap64 ((k : Int) + 1) = (k : Int) + 1 := by unfold wrap64; omega
      by_cases hc : c = p
      · subst hc
        rw [hd, cutG_hit] at hcut
        have hcut2 : cutL c l = (L ++ [(l.drop f).take (k - f)]) ++ cutG c ((l.drop (k + 1)).take (k + 1 - (k + 1))) (l.drop (k + 1)) := by rw [hcut, hd1]; simp
        have HC := Lib.hid hcut2
        have HG := Lib.hid hgr
        have E9 := Lib.hid e9
        clear hcut hcut2 hd hd1 e9 hown hgr
        go_wp2_with (at_builtin; refine wpList_append_own _ rfl _ _ 60 rfl w.heap.size 9 i0 (.string ⟨#[]⟩) 1 16 Tryd.underlying60 hi hz0 hz1 hz2 rfl (by decide) _ _ _ rfl hA ⟨wr.heap.size, 0, none⟩ 1 1 [.string ((bs l).extract f k)] rfl rfl (onetx_news _ _) (onetx_cell _) ?c3 ?c4 ?c5 ?_)
        case c3 => unfold maxLen; omega
        case c4 => omega
        case c5 => have := HG.out.size; simp; omega
        intro v' w3 hown' hgrow _
        have G3 := Lib.hid (grTx_row (grownBy_trans HG.out (World.grownBy_alloc wr (.cells #[.string ((bs l).extract f k)] 9) none)) hA (Nat.le_refl _) hgrow)
        rw [E9.out, txC_snoc] at hown'
        rw [show L.length + 1 = (L ++ [(l.drop f).take (k - f)]).length by simp] at hown'
        have O3 := Lib.hid hown'
        clear hown' hgrow hA hidx
        go_wp2
        go_roundw
        case rel => exact ⟨L ++ [(l.drop f).take (k - f)], k + 1, k + 1, by omega, by omega, by go_num, by go_num, by simp; omega, HC.out, O3.out, G3.out⟩
        case measure => simp [intOf]; omega
      · have hne : ((c.toNat : Int) == (p.toNat : Int)) = false := beq_false_of_ne fun e => hc (UInt8.toNat_inj.1 (by exact_mod_cast e))
        have hne2 : ¬ (c.toNat = p.toNat) := fun e => hc (UInt8.toNat_inj.1 e)
        rw [hd, cutG_miss _ _ hc] at hcut
        have hcut2 : cutL p l = L ++ cutG p ((l.drop f).take (k + 1 - f)) (l.drop (k + 1)) := by
          rw [hcut, hd1, show k + 1 - f = (k - f) + 1 by omega, List.take_add_one]
          congr 2
          rw [List.getElem?_drop, show f + (k - f) = k by omega]
          have : l[k]? = some c := by have := congrArg (fun x => x[0]?) hd; simpa using this
          rw [this]; rfl
        have HC := Lib.hid hcut2
        have HG := Lib.hid hgr
        have HO := Lib.hid hown
        clear hcut hcut2 hd hd1 e9 hown hgr hA
        go_wp2
        go_roundw
        case rel => exact ⟨L, f, k + 1, by omega, by omega, rfl, by go_num, by omega, HC.out, HO.out, HG.out⟩
        case measure => simp [intOf]; omega
    · obtain rfl : k = l.length := by omega
      rw [List.drop_length, cutG_nil] at hcut
      have HC := Lib.hid hcut
      have HG := Lib.hid hgr
      have E9 := Lib.hid e9
      clear hcut e9 hown hgr
      go_wp2_with (at_builtin; refine wpList_append_own _ rfl _ _ 60 rfl w.heap.size 9 i0 (.string ⟨#[]⟩) 1 16 Tryd.underlying60 hi hz0 hz1 hz2 rfl (by decide) _ _ _ rfl hA ⟨wr.heap.size, 0, none⟩ 1 1 [.string ((bs l).extract f l.length)] rfl rfl (onetx_news _ _) (onetx_cell _) ?d3 ?d4 ?d5 ?_)
      case d3 => unfold maxLen; omega
      case d4 => omega
      case d5 => have := HG.out.size; simp; omega
      intro v' w3 hown' hgrow _
      have G3 := Lib.hid (grTx_row (grownBy_trans HG.out (World.grownBy_alloc wr (.cells #[.string ((bs l).extract f l.length)] 9) none)) hA (Nat.le_refl _) hgrow)
      rw [E9.out, txC_snoc, ← HC.out, show L.length + 1 = (cutL p l).length by rw [HC.out]; simp] at hown'
      obtain ⟨a, cap, rfl, hS⟩ := own_txs hown' (by rw [HC.out]; simp)
      clear hown' hgrow hA
      go_wp2
      go_ret
      exact ⟨a, cap, rfl, hS, G3.out⟩

end Go.Proofs.YtnkebgkocpeonaaDoor

/-
  A number's text read, as the model reads it.
-/
namespace Go.Proofs.YtnkebgkocpeonaaDoor
open Go.RowKit

/-- The number whose digits these are. -/
def valN : List UInt8 → Int → Int
  | [], n => n
  | c :: r, n => valN r (10 * n + digV c)
theorem valN_app : ∀ (l : List UInt8) (c : UInt8) (n : Int), valN (l ++ [c]) n = 10 * valN l n + digV c
  | [], _, _ => rfl
  | x :: l, c, n => by show valN (l ++ [c]) _ = _; rw [valN_app l c]; rfl
theorem take_snocB {l r : List UInt8} {c : UInt8} {k : Nat} (hd : l.drop k = c :: r) : l.take (k + 1) = l.take k ++ [c] := by
  rw [List.take_add_one]
  have : l[k]? = some c := by have := congrArg (fun x => x[0]?) hd; simpa using this
  rw [this]; rfl
theorem dig_done {l : List UInt8} (h1 : 1 ≤ l.length) (h2 : l.length ≤ 2) (hz : ¬ (1 < l.length ∧ l.getD 0 0 = 48)) (ha : ∀ c ∈ l, isD c = true) : digI l = valN l 0 := by
  match l, h1, h2, hz, ha with
  | [c], _, _, _, ha => rw [digI_one (ha c (by simp))]; show _ = 10 * 0 + digV c; omega
  | [c, d], _, _, hz, ha =>
    rw [digI_two (ha c (by simp)) (ha d (by simp)) (fun e => hz ⟨by simp, by simpa using e⟩)]
    show _ = 10 * (10 * 0 + digV c) + digV d
    omega
theorem dig_bad {l : List UInt8} {c : UInt8} (h2 : l.length ≤ 2) (hm : c ∈ l) (hc : isD c = false) : digI l = -1 := by
  match l, h2, hm with
  | [], _, hm => cases hm
  | [a], _, hm => rw [List.mem_singleton] at hm; subst hm; exact digI_one_no hc
  | [a, b], _, hm =>
    rcases List.mem_cons.1 hm with h | h
    · subst h; exact digI_two_no (.inl hc)
    · rw [List.mem_singleton] at h; subst h; exact digI_two_no (.inr (.inl hc))
theorem dig_zero {l : List UInt8} {r : List UInt8} (hd : l = 48 :: r) (hr : 1 < l.length) : digI l = -1 := by
  subst hd
  match r, hr with
  | [], hr => simp at hr
  | [d], _ => exact digI_two_no (.inr (.inr rfl))
  | d :: e :: r, _ => exact digI_long (by simp)

/-! The walks. -/
theorem digV_le (c : UInt8) (h : isD c = true) : 0 ≤ digV c ∧ digV c ≤ 9 := inB_of h
theorem isD_ways (c : UInt8) : (isD c = true ∧ ¬ (c.toNat : Int) < 48 ∧ ¬ 57 < (c.toNat : Int)) ∨ (isD c = false ∧ ((c.toNat : Int) < 48 ∨ (¬ (c.toNat : Int) < 48 ∧ 57 < (c.toNat : Int)))) := by
  by_cases g : (c.toNat : Int) < 48
  · exact .inr ⟨inB_f (by unfold digV; omega), .inl g⟩
  · by_cases g2 : 57 < (c.toNat : Int)
    · exact .inr ⟨inB_f (by unfold digV; omega), .inr ⟨g, g2⟩⟩
    · exact .inl ⟨inB_t (by unfold digV; omega), g, g2⟩
def DgRel1 (c : UInt8) (w : World) (nv kv : Value) (wr : World) : Prop := w = wr ∧ ((nv = .int .i64 0 ∧ kv = .int .i64 0) ∨ (isD c = true ∧ nv = .int .i64 ((c.toNat : Int) - 48) ∧ kv = .int .i64 1))
def DgRel2 (c d : UInt8) (w : World) (nv kv : Value) (wr : World) : Prop := w = wr ∧ ((nv = .int .i64 0 ∧ kv = .int .i64 0) ∨ (isD c = true ∧ nv = .int .i64 ((c.toNat : Int) - 48) ∧ kv = .int .i64 1) ∨ (isD c = true ∧ isD d = true ∧ nv = .int .i64 (10 * ((c.toNat : Int) - 48) + ((d.toNat : Int) - 48)) ∧ kv = .int .i64 2))
set_option maxRecDepth 8000 in
set_option maxHeartbeats 4000000 in
theorem sdig_1 (c : UInt8) (w : World) :
    Calls Tryd.prog 42 #[.string (bs [c])] w fun e w' => e = .returned (.int .i64 (digI [c])) ∧ w = w' := by
  have hz : (bs [c]).size = 1 := bs_size [c]
  have cn := in_any 1 1 2
  rw [show inB 1 1 2 = true from rfl] at cn
  have hidx0 : ∀ w : World, (Instr.index 9 (.string (bs [c])) (.int .i64 0)).run Tryd.prog w = .ok (.int .u8 (c.toNat : Int)) w := fun w => idx_run (s := bs [c]) (p := 0) (c := c) rfl w
  have hlt := c.toNat_lt
  obtain ⟨S, hS⟩ : ∃ S, bs [c] = S := ⟨_, rfl⟩
  rw [hS] at hz hidx0 ⊢
  clear hS
  go_enter Tryd.func42, Tryd.ntmps42
  go_wp2_with (first | (go_at_call 32; refine (cn _).mono ?_; rintro e w' ⟨rfl, rfl⟩))
  clear cn
  go_loopw [3, 4] (fun nv kv wr => DgRel1 c w nv kv wr) (fun _ kv _ => 1 - (intOf kv).toNat)
  case atStart => exact ⟨rfl, .inl ⟨rfl, rfl⟩⟩
  case round =>
    obtain ⟨rfl, hrel⟩ := hrel
    rcases hrel with ⟨rfl, rfl⟩ | ⟨hc, rfl, rfl⟩
    · rcases isD_ways c with ⟨hx, g1, g2⟩ | ⟨hx, g1 | ⟨g1, g2⟩⟩
      · have wx : IntKind.u8.wrap ((c.toNat : Int) - 48) = (c.toNat : Int) - 48 := by rw [IntKind.wrap_u8]; omega
        have wy : wrap64 ((c.toNat : Int) - 48) = (c.toNat : Int) - 48 := by unfold wrap64; omega
        go_wp2
        go_roundw
        case rel => exact ⟨rfl, .inr ⟨hx, by go_num, rfl⟩⟩
        case measure => simp [intOf]
      · go_wp2
        go_ret
        exact ⟨by rw [digI_one_no hx]; rfl, rfl⟩
      · go_wp2
        go_ret
        exact ⟨by rw [digI_one_no hx]; rfl, rfl⟩
    · go_wp2
      go_ret
      exact ⟨by rw [digI_one hc]; rfl, rfl⟩

set_option maxRecDepth 8000 in
set_option maxHeartbeats 4000000 in
theorem sdig_2 (c d : UInt8) (h48 : c ≠ 48) (w : World) :
    Calls Tryd.prog 42 #[.string (bs [c, d])] w fun e w' => e = .returned (.int .i64 (digI [c, d])) ∧ w = w' := by
  have hz : (bs [c, d]).size = 2 := bs_size [c, d]
  have cn := in_any 2 1 2
  rw [show inB 2 1 2 = true from rfl] at cn
  have hidx0 : ∀ w : World, (Instr.index 9 (.string (bs [c, d])) (.int .i64 0)).run Tryd.prog w = .ok (.int .u8 (c.toNat : Int)) w := fun w => idx_run (s := bs [c, d]) (p := 0) (c := c) rfl w
  have hidx1 : ∀ w : World, (Instr.index 9 (.string (bs [c, d])) (.int .i64 1)).run Tryd.prog w = .ok (.int .u8 (d.toNat : Int)) w := fun w => idx_run (s := bs [c, d]) (p := 1) (c := d) (r := []) rfl w
  have hne : ((c.toNat : Int) == 48) = false := beq_false_of_ne fun e => h48 (UInt8.toNat_inj.1 (by rw [show (48 : UInt8).toNat = 48 from rfl]; omega))
  have hlt := c.toNat_lt
  have hlt2 := d.toNat_lt
  obtain ⟨S, hS⟩ : ∃ S, bs [c, d] = S := ⟨_, rfl⟩
  rw [hS] at hz hidx0 hidx1 ⊢
  clear hS
  go_enter Tryd.func42, Tryd.ntmps42
  go_wp2_with (first | (go_at_call 32; refine (cn _).mono ?_; rintro e w' ⟨rfl, rfl⟩))
  clear cn
  go_loopw [3, 4] (fun nv kv wr => DgRel2 c d w nv kv wr) (fun _ kv _ => 2 - (intOf kv).toNat)
  case atStart => exact ⟨rfl, .inl ⟨rfl, rfl⟩⟩
  case round =>
    obtain ⟨rfl, hrel⟩ := hrel
    rcases hrel with ⟨rfl, rfl⟩ | ⟨hc, rfl, rfl⟩ | ⟨hc, hd, rfl, rfl⟩
    · rcases isD_ways c with ⟨hx, g1, g2⟩ | ⟨hx, g1 | ⟨g1, g2⟩⟩
      · have wx : IntKind.u8.wrap ((c.toNat : Int) - 48) = (c.toNat : Int) - 48 := by rw [IntKind.wrap_u8]; omega
        have wy : wrap64 ((c.toNat : Int) - 48) = (c.toNat : Int) - 48 := by unfold wrap64; omega
        go_wp2
        go_roundw
        case rel => exact ⟨rfl, .inr (.inl ⟨hx, by go_num, rfl⟩)⟩
        case measure => simp [intOf]
      · go_wp2
        go_ret
        exact ⟨by rw [digI_two_no (.inl hx)]; rfl, rfl⟩
      · go_wp2
        go_ret
        exact ⟨by rw [digI_two_no (.inl hx)]; rfl, rfl⟩
    · rcases isD_ways d with ⟨hx, g1, g2⟩ | ⟨hx, g1 | ⟨g1, g2⟩⟩
      · have wx : IntKind.u8.wrap ((d.toNat : Int) - 48) = (d.toNat : Int) - 48 := by rw [IntKind.wrap_u8]; omega
        have hcv := digV_le c hc
        unfold digV at hcv
        have wy : wrap64 (10 * ((c.toNat : Int) - 48)) = 10 * ((c.toNat : Int) - 48) := by unfold wrap64; omega
        have wz : wrap64 (10 * ((c.toNat : Int) - 48) + ((d.toNat : Int) - 48)) = 10 * ((c.toNat : Int) - 48) + ((d.toNat : Int) - 48) := by unfold wrap64; omega
        go_wp2
        go_roundw
        case rel => exact ⟨rfl, .inr (.inr ⟨hc, hx, by go_num, rfl⟩)⟩
        case measure => simp [intOf]
      · go_wp2
        go_ret
        exact ⟨by rw [digI_two_no (.inr (.inl hx))]; rfl, rfl⟩
      · go_wp2
        go_ret
        exact ⟨by rw [digI_two_no (.inr (.inl hx))]; rfl, rfl⟩
    · go_wp2
      go_ret
      exact ⟨by rw [digI_two hc hd h48]; rfl, rfl⟩

set_option maxHeartbeats 1000000 in
theorem sdig_zero (d : UInt8) (w : World) :
    Calls Tryd.prog 42 #[.string (bs [48, d])] w fun e w' => e = .returned (.int .i64 (digI [48, d])) ∧ w = w' := by
  have hz : (bs [48, d]).size = 2 := bs_size [48, d]
  have cn := in_any 2 1 2
  rw [show inB 2 1 2 = true from rfl] at cn
  have hidx0 : ∀ w : World, (Instr.index 9 (.string (bs [48, d])) (.int .i64 0)).run Tryd.prog w = .ok (.int .u8 48) w := fun w => idx_run (s := bs [48, d]) (p := 0) (c := 48) rfl w
  rw [digI_two_no (.inr (.inr rfl))]
  obtain ⟨S, hS⟩ : ∃ S, bs [48, d] = S := ⟨_, rfl⟩
  rw [hS] at hz hidx0 ⊢
  clear hS
  go_enter Tryd.func42, Tryd.ntmps42
  go_wp2_with (first | (go_at_call 32; refine (cn _).mono ?_; rintro e w' ⟨rfl, rfl⟩))
  go_ret
  exact ⟨rfl, rfl⟩
set_option maxHeartbeats 1000000 in
theorem sdig_len (l : List UInt8) (h : l = [] ∨ 2 < l.length) (hl : l.length ≤ 2097152) (w : World) :
    Calls Tryd.prog 42 #[.string (bs l)] w fun e w' => e = .returned (.int .i64 (digI l)) ∧ w = w' := by
  have hz := bs_size l
  have cn := in_any (l.length : Int) 1 2
  rw [show inB (l.length : Int) 1 2 = false from inB_f (by rcases h with rfl | h <;> simp <;> omega)] at cn
  rw [show digI l = -1 from by rcases h with rfl | h; exact digI_nil; exact digI_long h]
  clear h
  generalize bs l = S at *
  go_enter Tryd.func42, Tryd.ntmps42
  go_wp2_with (first | (go_at_call 32; refine (cn _).mono ?_; rintro e w' ⟨rfl, rfl⟩))
  go_ret
  exact ⟨rfl, rfl⟩
theorem sdig_any (l : List UInt8) (hl : l.length ≤ 2097152) (w : World) :
    Calls Tryd.prog 42 #[.string (bs l)] w fun e w' => e = .returned (.int .i64 (digI l)) ∧ w = w' := by
  match l, hl with
  | [], hl => exact sdig_len [] (.inl rfl) hl w
  | [c], _ => exact sdig_1 c w
  | [c, d], _ =>
    by_cases h : c = 48
    · subst h; exact sdig_zero d w
    · exact sdig_2 c d h w
  | c :: d :: e :: r, hl => exact sdig_len _ (.inr (by simp)) hl w

end Go.Proofs.YtnkebgkocpeonaaDoor

/-
  A deed's text read: impl's ReadDeed where the word is a chain's; and all.
-/
namespace Go.Proofs.YtnkebgkocpeonaaDoor
open Go.RowKit

set_option maxRecDepth 8000 in
set_option maxHeartbeats 4000000 in
theorem ird_chain (l : List UInt8) (T B : List UInt8) (f : Bool) (w : World) (hT : WdAt w) (hE : ErAt w) (h0 : l ≠ []) (ht : (Lib.cut l [32]) = (T, B, f)) (hk : kindI T = 0) (hl : l.length ≤ L48) :
    Calls Tryd.prog 13 #[.string (bs l)] w (RdDPost l w) := by
  have cc := cut_any l 32
  have hw : wroteA l = (0, numI B, []) := by unfold wroteA; rw [ht, hk]; exact if_pos rfl
  have he := empty_bs h0
  have hB : B.length ≤ L48 := by have := (cut_len l 32).2; rw [ht] at this; exact Nat.le_trans this hl
  have cn := fun w hE => num_any B hB w hE
  unfold NumC at cn
  unfold CutD at cc
  rw [ht] at cc
  unfold RdDPost
  have HT := Lib.hid hT
  have HE := Lib.hid hE
  have HL := Lib.hid hl
  have HK := Lib.hid hk
  have ci := fun w hT => itx_any (0, numI B, []) w hT
  unfold TxPost ddV at ci
  rw [show bs ([] : List UInt8) = ⟨#[]⟩ from rfl] at ci
  clear hT hE hl hk ht hB
  by_cases hx : txD (0, numI B, []) = l
  · have hr := rdV_some (wrote_yes h0 (by rw [hw]; exact hx))
    rw [hw] at hr
    rw [hr]
    rw [hx] at ci
    unfold ddV
    clear hr hw hx h0
    generalize numI B = V at *
    go_enter Tryd.func13, Tryd.ntmps13
    go_wp2_with (first | (go_at_call 36; refine (cc _ HL.out).mono ?_; rintro e w1 ⟨rfl, hg⟩; have hT1 := HT.out.grown (grownBy_trans (World.grownBy_alloc _ _ none) hg); have S0 := Lib.hid (RdS.new HT.out HE.out hg (.int .i64 0) (.int .i64 0) (.string (bs B))); obtain ⟨⟨⟨x0, x1, x2⟩, y0, y1, y2⟩, ⟨z0, z1, z2⟩, v0, v1, v2⟩ := S0.out.facts; clear hg) | (go_at_call 37; refine (kind_any _ _ hT1).mono ?_; rw [HK.out]; rintro e w2 ⟨rfl, rfl⟩) | (go_at_call 38; refine (cn _ S0.out.2.2.2.1).mono ?_; rintro e w2 ⟨rfl, hg⟩; have S1 := Lib.hid (S0.out.grown hg); obtain ⟨⟨⟨p0, p1, p2⟩, q0, q1, q2⟩, ⟨r0, r1, r2⟩, s0, s1, s2⟩ := S1.out.facts; have S2 := Lib.hid (S1.out.set (.int .i64 V) (.string ⟨#[]⟩)); obtain ⟨⟨⟨a0, a1, a2⟩, b0, b1, b2⟩, ⟨c0, c1, c2⟩, d0, d1, d2⟩ := S2.out.facts; clear hg) | (go_at_call 10; refine (ci _ S2.out.2.2.1).mono ?_; rintro e w3 ⟨rfl, hg⟩; have S3 := Lib.hid (S2.out.grown hg); obtain ⟨⟨⟨e0, e1, e2⟩, f0, f1, f2⟩, ⟨g0, g1, g2⟩, i0, i1, i2⟩ := S3.out.facts; clear hg))
    have E := S3.out.fin (.int .i64 0) (.int .i64 V) (.string ⟨#[]⟩)
    exact bodyPost_ret (resDdB rfl _ rfl rfl E.1) rfl ⟨rfl, E.2⟩
  · have hr := rdV_none (wrote_no (s := l) (.inr (by rw [hw]; exact hx)))
    rw [hr]
    have hne := bs_ne hx
    rw [← toL_bs (txD (0, numI B, []))] at hne
    generalize txD (0, numI B, []) = X at *
    unfold ddV nilDd
    clear hr hw hx h0
    generalize numI B = V at *
    go_enter Tryd.func13, Tryd.ntmps13
    go_wp2_with (first | (go_at_call 36; refine (cc _ HL.out).mono ?_; rintro e w1 ⟨rfl, hg⟩; have hT1 := HT.out.grown (grownBy_trans (World.grownBy_alloc _ _ none) hg); have S0 := Lib.hid (RdS.new HT.out HE.out hg (.int .i64 0) (.int .i64 0) (.string (bs B))); obtain ⟨⟨⟨x0, x1, x2⟩, y0, y1, y2⟩, ⟨z0, z1, z2⟩, v0, v1, v2⟩ := S0.out.facts; clear hg) | (go_at_call 37; refine (kind_any _ _ hT1).mono ?_; rw [HK.out]; rintro e w2 ⟨rfl, rfl⟩) | (go_at_call 38; refine (cn _ S0.out.2.2.2.1).mono ?_; rintro e w2 ⟨rfl, hg⟩; have S1 := Lib.hid (S0.out.grown hg); obtain ⟨⟨⟨p0, p1, p2⟩, q0, q1, q2⟩, ⟨r0, r1, r2⟩, s0, s1, s2⟩ := S1.out.facts; have S2 := Lib.hid (S1.out.set (.int .i64 V) (.string ⟨#[]⟩)); obtain ⟨⟨⟨a0, a1, a2⟩, b0, b1, b2⟩, ⟨c0, c1, c2⟩, d0, d1, d2⟩ := S2.out.facts; clear hg) | (go_at_call 10; refine (ci _ S2.out.2.2.1).mono ?_; rintro e w3 ⟨rfl, hg⟩; have S3 := Lib.hid (S2.out.grown hg); obtain ⟨⟨⟨e0, e1, e2⟩, f0, f1, f2⟩, ⟨g0, g1, g2⟩, i0, i1, i2⟩ := S3.out.facts; clear hg))
    have E := S3.out.fin (.int .i64 0) (.int .i64 0) (.string ⟨#[]⟩)
    exact bodyPost_ret (resDdB rfl _ rfl rfl E.1) rfl ⟨rfl, E.2⟩

theorem ird_any (l : List UInt8) (w : World) (hT : WdAt w) (hE : ErAt w) (hl : l.length ≤ L48) :
    Calls Tryd.prog 13 #[.string (bs l)] w (RdDPost l w) := by
  by_cases h0 : l = []
  · subst h0; exact ird_nil w hT hE
  · by_cases hk : kindI (Lib.cut l [32]).1 = 0
    · exact ird_chain l _ _ _ w hT hE h0 rfl hk hl
    · exact ird_word l _ _ _ _ w hT hE h0 rfl rfl hk hl

end Go.Proofs.YtnkebgkocpeonaaDoor

/-
  The walk of FnDeedText.
-/
namespace Go.Proofs.YtnkebgkocpeonaaDoor
open Go.RowKit

def DtxPost (w : World) (e : Ending) (w' : World) : Prop := ∃ D : Dd, e = .returned (ddV D) ∧ D.2.2.length ≤ 100 ∧ w.grownBy w' none
set_option maxRecDepth 8000 in
set_option maxHeartbeats 1000000 in
theorem DrawDeedText_any (a : Option Addr) (len cap : Nat) (zs : List Int) (w : World) (h : IsRow .u8 w a len cap zs) :
    Calls Tryd.prog 9 #[.slice a len cap] w (DtxPost w) := by
  have g0 := World.grownBy_alloc w (.cells #[.int .i64 0, .int .i64 0, .string ⟨#[]⟩] 24) none
  have hB := CellsAt.new w #[.int .i64 0, .int .i64 0, .string ⟨#[]⟩] 24
  have ha := h.up g0
  have hR : (w.alloc (.cells #[.int .i64 0, .int .i64 0, .string ⟨#[]⟩] 24)).heap.size = w.heap.size + 1 := by show (w.heap.push _).size = _; rw [Array.size_push]
  have HR := Lib.hid hR
  have co := open_draw a len cap zs _ ha
  unfold OpenPost at co
  rw [hR] at co
  have HB := Lib.hid hB
  have G0 := Lib.hid g0
  clear h hB g0 hR ha
  go_enter Tryd.func9, Tryd.ntmps9
  go_wp2_with fail
  refine co.mono ?_
  rintro e w1 ⟨rfl, hr1, hg1⟩
  go_wp2_with fail
  refine (deed_draw _ _ _ hr1 (by omega)).mono ?_
  rintro e w2 ⟨D, rfl, hD, hr2, hg2⟩
  have hgg := grownBy_own hg1 (by rw [HR.out]; exact hg2)
  have HW := Lib.hid (HB.out.grown hgg)
  obtain ⟨⟨z0, z1, z2⟩, f0, f1, f2⟩ := set_facts HW.out
  obtain ⟨K, N, T⟩ := D
  go_wp2_with fail
  exact bodyPost_ret (v := .agg #[.int .i64 K, .int .i64 N, .string (bs T)]) (resDd rfl _ rfl (HW.out.put3 _ _ _)) rfl ⟨(K, N, T), rfl, hD, put3_grown _ (grownBy_trans G0.out hgg) (Nat.le_refl _) _ _ _⟩

theorem tx_len (a : Dd) : (txD a).length ≤ 66 := by
  by_cases h : txD a = []
  · rw [h]; simp
  · have hh := told_of h
    generalize txD a = s at *
    cases hh with
    | chain k h => simp [chainW]
    | say t hf => have := isF_len hf; simp [sayW]; omega
    | times t hf => have := isF_len hf; simp [timesW']; omega
    | ifs t hf => have := isF_len hf; simp [ifW]; omega
    | nots => decide
    | basic => decide
    | back => decide
theorem itx_v (K N : Int) (T : List UInt8) (S : ByteArray) (h : bs (txD (K, N, T)) = S) (w : World) (hT : WdAt w) : Calls Tryd.prog 10 #[.agg #[.int .i64 K, .int .i64 N, .string (bs T)]] w fun e w' => e = .returned (.string S) ∧ w.grownBy w' none := by rw [← h]; exact itx_any (K, N, T) w hT
theorem stx_v (K N : Int) (T : List UInt8) (S : ByteArray) (h : bs (txD (K, N, T)) = S) (w : World) : Calls Tryd.prog 11 #[.agg #[.int .i64 K, .int .i64 N, .string (bs T)]] w fun e w' => e = .returned (.string S) ∧ w.grownBy w' none := by rw [← h]; exact stx_any (K, N, T) w
theorem ird_v (l : List UInt8) (v : Value) (h : rdV l = v) (w : World) (hT : WdAt w) (hE : ErAt w) (hl : l.length ≤ L48) : Calls Tryd.prog 13 #[.string (bs l)] w fun e w' => e = .returned v ∧ w.grownBy w' none := by rw [← h]; exact ird_any l w hT hE hl

set_option maxRecDepth 100000 in
set_option maxHeartbeats 4000000 in
theorem FnDeedText_walk (a0 : Option Addr) (len0 cap0 : Nat) (z0 : List Int) (w : World) (w0 : IsRow .u8 w a0 len0 cap0 z0) (hT : WdAt w ∧ ErAt w) :
    Calls Tryd.prog 3 #[.slice a0 len0 cap0] w fun e w' => e = .returned (.bool true) ∧ Below w.heap.size w w' := by
  by_cases hl : (1048576 : Int) < (len0 : Int)
  · clear w0
    go_enter Tryd.func3, Tryd.ntmps3
    go_wp2_with fail
    go_ret
    exact ⟨rfl, Below.refl _ _⟩
  · go_enter Tryd.func3, Tryd.ntmps3
    go_wp2_with fail
    refine (DrawDeedText_any _ _ _ _ _ w0).mono ?_
    rintro e w1 ⟨⟨K, N, T⟩, rfl, hD, g1⟩
    clear w0 hD
    unfold ddV
    have X0 := Lib.hid (grownBy_trans g1 (World.grownBy_alloc w1 (.cells #[.int .i64 K, .int .i64 N, .string (bs T)] 24) none))
    have XB := Lib.hid (CellsAt.new w1 #[.int .i64 K, .int .i64 N, .string (bs T)] 24)
    have HT := Lib.hid hT
    have TA := Lib.hid (hT.1.grown X0.out)
    obtain ⟨k0, k1, k2⟩ := XB.out.three
    clear hT
    by_cases hs : txD (K, N, T) = []
    · have c1 := itx_v K N T ⟨#[]⟩ (by rw [hs]; rfl)
      have c2 := stx_v K N T ⟨#[]⟩ (by rw [hs]; rfl)
      clear hs
      go_wp2_with (first | (go_at_call 10; refine (c1 _ TA.out).mono ?_; rintro e w2 ⟨rfl, g2⟩; have X1 := Lib.hid (grownBy_trans X0.out g2); obtain ⟨m0, m1, m2⟩ := (XB.out.grown g2).three; clear c1) | (go_at_call 11; refine (c2 _).mono ?_; rintro e w3 ⟨rfl, g3⟩; clear c2) | (go_at_call 12; refine (alive_any _).mono ?_; rintro e w' ⟨rfl, rfl⟩))
      go_ret
      exact ⟨rfl, below_of (grownBy_trans X1.out g3)⟩
    · have he := empty_bs hs
      have hr := rd_tx hs
      have c3 := ird_v (txD (K, N, T)) _ (rdV_some hr)
      have hL : Hid ((txD (K, N, T)).length ≤ L48) := Lib.hid (Nat.le_trans (tx_len _) (by decide))
      have c1 := itx_v K N T _ rfl
      have c2 := stx_v K N T _ rfl
      unfold ddV at c3
      generalize txD (K, N, T) = S at *
      clear hs hr
      go_wp2_with (first | (go_at_call 10; refine (c1 _ TA.out).mono ?_; rintro e w2 ⟨rfl, g2⟩; have X1 := Lib.hid (grownBy_trans X0.out g2); have X1B := Lib.hid (XB.out.grown g2); obtain ⟨m0, m1, m2⟩ := X1B.out.three; clear c1) | (go_at_call 11; refine (c2 _).mono ?_; rintro e w3 ⟨rfl, g3⟩; have X2 := Lib.hid (grownBy_trans X1.out g3); have X2B := Lib.hid (X1B.out.grown g3); clear c2) | (go_at_call 13; refine (c3 _ (HT.out.1.grown X2.out) (HT.out.2.grown X2.out) hL.out).mono ?_; rintro e w4 ⟨rfl, g4⟩; have X3 := Lib.hid (grownBy_trans (grownBy_trans X2.out g4) (World.grownBy_alloc _ (.cells #[.int .i64 K, .int .i64 N, .string (bs T)] 24) none)); obtain ⟨p0, p1, p2⟩ := ((X2B.out.grown g4).grown (World.grownBy_alloc _ (.cells #[.int .i64 K, .int .i64 N, .string (bs T)] 24) none)).three; obtain ⟨q0, q1, q2⟩ := (CellsAt.new w4 #[.int .i64 K, .int .i64 N, .string (bs T)] 24).three; clear c3))
      go_ret
      exact ⟨rfl, below_of X3.out⟩

end Go.Proofs.YtnkebgkocpeonaaDoor

/-
  Rows of deeds counted, copied and compared: the laws' szDeedS, toDeedS, eqDeedS.
-/
namespace Go.Proofs.YtnkebgkocpeonaaDoor
open Go.RowKit

theorem getDd_mem {xs : List Dd} {k : Nat} (h : k < xs.length) : xs.getD k nilDd ∈ xs := by
  rw [List.getD_eq_getElem?_getD, List.getElem?_eq_getElem h]
  exact List.getElem_mem h
/-- What szDeedS answers with: something below 0, or a number, few deeds and short texts. -/
def SzDPost (xs : List Dd) (w : World) (e : Ending) (w' : World) : Prop := ∃ v : Int, e = .returned (.int .i64 v) ∧ (v < 0 ∨ (0 ≤ v ∧ v ≤ 1048576 ∧ xs.length ≤ 1048576 ∧ ∀ x ∈ xs, x.2.2.length ≤ 1048576)) ∧ w.grownBy w' none
def SzDd (xs : List Dd) (w : World) (i left : Value) (wr : World) : Prop := ∃ (k : Nat) (l : Int), k ≤ xs.length ∧ i = .int .i64 k ∧ left = .int .i64 l ∧ 0 ≤ l ∧ l ≤ 1048576 ∧ (∀ j, j < k → (xs.getD j nilDd).2.2.length ≤ 1048576) ∧ w.grownBy wr none

set_option maxRecDepth 8000 in
set_option maxHeartbeats 2000000 in
theorem szDeedS_any (left : Int) (a : Option Addr) (cap : Nat) (xs : List Dd) (w : World) (hl : 0 ≤ left ∧ left ≤ 1048576) (h : DdsAt w a xs) (hz : ∀ x ∈ xs, x.2.2.length ≤ maxLen) :
    Calls Tryd.prog 24 #[.slice a xs.length cap, .int .i64 left] w (SzDPost xs w) := by
  have hm := h.1
  unfold maxLen at hm
  have hw2 : wrap64 (left - (xs.length : Int)) = left - (xs.length : Int) := by unfold wrap64; omega
  have H := Lib.hid h
  have HZ := Lib.hid hz
  clear h hz
  by_cases hle : (xs.length : Int) ≤ left
  · go_enter Tryd.func24, Tryd.ntmps24
    have hp : 0 ≤ left - (xs.length : Int) := by omega
    go_wp2
    go_loopw [1, 5] (fun l i wr => SzDd xs w i l wr) (fun _ i _ => xs.length - (intOf i).toNat)
    case atStart => exact ⟨0, left - xs.length, by omega, rfl, rfl, by omega, by omega, fun j hj => absurd hj (by omega), grownBy_refl _ _⟩
    case round =>
      obtain ⟨k, l, hk, rfl, rfl, hl0, hl1, hsm, hgr⟩ := hrel
      have HS := Lib.hid hsm
      clear hsm
      by_cases hlt : k < xs.length
      · have hx2 := H.out.grown hgr
        rcases hx2.2 with h0 | ⟨bx, ox, rfl, hbx, hcx⟩
        · rw [h0] at hlt; simp at hlt
        obtain ⟨c0, c1, c2⟩ := hcx k hlt
        have hzk : (xs.getD k nilDd).2.2.length ≤ maxLen := HZ.out _ (getDd_mem hlt)
        clear hx2 hcx hbx
        have hq3 : Hid ((xs.getD k nilDd).2.2.length ≤ 1048576 → ∀ j, j < k + 1 → (xs.getD j nilDd).2.2.length ≤ 1048576) := Lib.hid fun h j hj => by
          by_cases e : j = k
          · rw [e]; exact h
          · exact HS.out j (by omega)
        generalize xs.getD k nilDd = q at *
        have cs := fun w => szDeed_any q.1 q.2.1 l (bs q.2.2) w ⟨hl0, hl1⟩ (by rw [bs_size]; exact hzk)
        have Hgr := Lib.hid hgr
        clear hgr
        by_cases hq : ((bs q.2.2).size : Int) ≤ l
        · simp only [if_pos hq] at cs
          have hq0 : 0 ≤ l - ((bs q.2.2).size : Int) := by omega
          have hqq := Lib.hid (hq3.out (by rw [bs_size] at hq; omega))
          clear hq3
          go_wp2_with (first | (go_at_call 21; refine (cs _).mono ?_; rintro e w' ⟨rfl, hg⟩))
          go_roundw
          case rel => exact ⟨k + 1, l - ((bs q.2.2).size : Int), by omega, by go_num, rfl, hq0, by omega, hqq.out, grownBy_trans Hgr.out hg⟩
          case measure => simp [intOf]; omega
        · simp only [if_neg hq] at cs
          clear hq3
          go_wp2_with (first | (go_at_call 21; refine (cs _).mono ?_; rintro e w' ⟨rfl, hg⟩))
          go_ret
          exact ⟨_, rfl, .inl (by decide), grownBy_trans Hgr.out hg⟩
      · obtain rfl : k = xs.length := by omega
        have Hgr := Lib.hid hgr
        clear hgr
        go_wp2
        go_ret
        refine ⟨l, rfl, .inr ⟨hl0, hl1, by omega, fun x hx => ?_⟩, Hgr.out⟩
        obtain ⟨j, hj, rfl⟩ := List.mem_iff_getElem.1 hx
        have := HS.out j hj
        rwa [List.getD_eq_getElem?_getD, List.getElem?_eq_getElem hj] at this
  · go_enter Tryd.func24, Tryd.ntmps24
    go_wp2
    go_ret
    exact ⟨_, rfl, .inl (by omega), grownBy_refl _ _⟩

def CpDd (g : Nat) (xs : List Dd) (w : World) (i : Value) (wr : World) : Prop :=
  ∃ (k : Nat) (vs : List Value), k ≤ xs.length ∧ i = .int .i64 k ∧ wr.ownsRow w.heap.size 24 3 (.slice (some ⟨g, 0, none⟩) xs.length xs.length) xs.length vs ∧ (∀ j, j < k → vs[j * 3]? = some (.int .i64 (xs.getD j nilDd).1) ∧ vs[j * 3 + 1]? = some (.int .i64 (xs.getD j nilDd).2.1) ∧ vs[j * 3 + 2]? = some (.string (bs (xs.getD j nilDd).2.2))) ∧ w.grownBy wr none
theorem own3_copied {g : Nat} {xs : List Dd} {w wr : World} {vs : List Value} (h : wr.ownsRow w.heap.size 24 3 (.slice (some ⟨g, 0, none⟩) xs.length xs.length) xs.length vs) (hx : ∀ j, j < xs.length → vs[j * 3]? = some (.int .i64 (xs.getD j nilDd).1) ∧ vs[j * 3 + 1]? = some (.int .i64 (xs.getD j nilDd).2.1) ∧ vs[j * 3 + 2]? = some (.string (bs (xs.getD j nilDd).2.2))) : Own3 wr w.heap.size (some ⟨g, 0, none⟩) xs.length xs := by
  have e : vs = ddC xs := by
    apply List.ext_getElem?
    intro j
    by_cases hj : j < xs.length * 3
    · have hk : j / 3 < xs.length := by omega
      have k1 := hx _ hk
      have k2 := ddC_at xs _ hk
      have hm : j % 3 = 0 ∨ j % 3 = 1 ∨ j % 3 = 2 := by omega
      rcases hm with q | q | q
      · rw [show j = j / 3 * 3 by omega, k1.1, k2.1]
      · rw [show j = j / 3 * 3 + 1 by omega, k1.2.1, k2.2.1]
      · rw [show j = j / 3 * 3 + 2 by omega, k1.2.2, k2.2.2]
    · rw [List.getElem?_eq_none (by rw [h.1]; omega), List.getElem?_eq_none (by rw [ddC_len]; omega)]
  unfold Own3
  rw [← e]
  exact h
theorem three_set {vs : List Value} {xs : List Dd} {k : Nat} (hl : vs.length = xs.length * 3) (hk : k < xs.length) (hxs : ∀ j, j < k → vs[j * 3]? = some (.int .i64 (xs.getD j nilDd).1) ∧ vs[j * 3 + 1]? = some (.int .i64 (xs.getD j nilDd).2.1) ∧ vs[j * 3 + 2]? = some (.string (bs (xs.getD j nilDd).2.2))) (m n : Int) (t : ByteArray) (hm : m = (xs.getD k nilDd).1) (hn : n = (xs.getD k nilDd).2.1) (ht : t = bs (xs.getD k nilDd).2.2) :
    ∀ j, j < k + 1 → (((vs.set (k * 3) (.int .i64 m)).set (k * 3 + 1) (.int .i64 n)).set (k * 3 + 2) (.string t))[j * 3]? = some (.int .i64 (xs.getD j nilDd).1) ∧ (((vs.set (k * 3) (.int .i64 m)).set (k * 3 + 1) (.int .i64 n)).set (k * 3 + 2) (.string t))[j * 3 + 1]? = some (.int .i64 (xs.getD j nilDd).2.1) ∧ (((vs.set (k * 3) (.int .i64 m)).set (k * 3 + 1) (.int .i64 n)).set (k * 3 + 2) (.string t))[j * 3 + 2]? = some (.string (bs (xs.getD j nilDd).2.2)) := by
  subst hm hn ht
  intro j hj
  by_cases e : j = k
  · subst e
    refine ⟨?_, ?_, ?_⟩
    · rw [List.getElem?_set_ne (by omega), List.getElem?_set_ne (by omega), List.getElem?_set_self (by omega)]
    · rw [List.getElem?_set_ne (by omega), List.getElem?_set_self (by rw [List.length_set]; omega)]
    · rw [List.getElem?_set_self (by rw [List.length_set, List.length_set]; omega)]
  · refine ⟨?_, ?_, ?_⟩
    · rw [List.getElem?_set_ne (by omega), List.getElem?_set_ne (by omega), List.getElem?_set_ne (by omega)]; exact (hxs j (by omega)).1
    · rw [List.getElem?_set_ne (by omega), List.getElem?_set_ne (by omega), List.getElem?_set_ne (by omega)]; exact (hxs j (by omega)).2.1
    · rw [List.getElem?_set_ne (by omega), List.getElem?_set_ne (by omega), List.getElem?_set_ne (by omega)]; exact (hxs j (by omega)).2.2

set_option maxRecDepth 8000 in
set_option maxHeartbeats 2000000 in
theorem toDeedS_any (a : Option Addr) (cap : Nat) (xs : List Dd) (hn : xs.length ≤ 100000000) (w : World) (h : DdsAt w a xs) :
    Calls Tryd.prog 25 #[.slice a xs.length cap] w (DdsPost xs w) := by
  obtain ⟨i0, hi, hz0, hz1, hz2⟩ := info_parts infoDd
  have Hh := Lib.hid h
  clear h
  go_enter Tryd.func25, Tryd.ntmps25
  go_wp2_with (at_make; refine wpList_make_full _ rfl _ _ 32 rfl w.heap.size 24 i0 (.agg #[.int .i64 0, .int .i64 0, .string ⟨#[]⟩]) 3 Tryd.underlying32 hi hz0 hz1 .i64 .i64 _ _ xs.length rfl rfl rfl rfl ?b2 ?b3 (Nat.le_refl _) ?_)
  case b2 => rw [hz2]; omega
  case b3 => unfold maxLen; omega
  intro w0 hown0 hgrow0
  go_wp2
  go_loopw [4] (fun i wr => CpDd w.heap.size xs w i wr) (fun i _ => xs.length - (intOf i).toNat)
  case atStart => exact ⟨0, _, by omega, rfl, hown0, fun j hj => absurd hj (by omega), hgrow0⟩
  case round =>
    obtain ⟨k, vs, hk, rfl, hown, hxs, hgr⟩ := hrel
    by_cases hlt : k < xs.length
    · have hx2 := Hh.out.grown hgr
      rcases hx2.2 with h0 | ⟨bx, ox, rfl, hbx, hcx⟩
      · rw [h0] at hlt; simp at hlt
      obtain ⟨c0, c1, c2⟩ := hcx k hlt
      have ct := fun w => toDeed_any (xs.getD k nilDd).1 (xs.getD k nilDd).2.1 (bs (xs.getD k nilDd).2.2) w
      have hxl := hown.1
      have HO := Lib.hid hown
      have HG := Lib.hid hgr
      have hnw := Lib.hid (three_set hown.1 hlt hxs _ _ _ rfl rfl rfl)
      clear hown hgr hx2 hcx hbx hxs
      generalize (xs.getD k nilDd).1 = n at *
      generalize (xs.getD k nilDd).2.1 = m at *
      generalize bs (xs.getD k nilDd).2.2 = t at *
      go_wp2_with (first | (go_at_call 22; refine (ct _).mono ?_; rintro e w2 ⟨rfl, hg⟩; have ho2 := HO.out.kept hg (by simp [Value.ownBlock]); have hst := Lib.hid (World.ownsRow.stored ho2 (k * 3) (.int .i64 n)); have hsu := Lib.hid (World.ownsRow.stored hst.out.1 (k * 3 + 1) (.int .i64 m)); have hsv := Lib.hid (World.ownsRow.stored hsu.out.1 (k * 3 + 2) (.string t)); have hgg := Lib.hid (grow_own3 (grow_own3 (grow_own3 (grownBy_trans HG.out hg) ho2 (Nat.le_refl _) hst.out.2) hst.out.1 (Nat.le_refl _) hsu.out.2) hsu.out.1 (Nat.le_refl _) hsv.out.2); have f0 := World.ownsRow.frozenAt ho2 (k * 3); have f1 := World.ownsRow.frozenAt ho2 (k * 3 + 1); have f2 := World.ownsRow.frozenAt ho2 (k * 3 + 2); have e0 := World.ownsRow.cellAt ho2 (k * 3) (by omega); have e1 := World.ownsRow.cellAt ho2 (k * 3 + 1) (by omega); have e2 := World.ownsRow.cellAt ho2 (k * 3 + 2) (by omega); rw [List.getElem?_eq_getElem (by omega)] at e0 e1 e2; clear ho2))
      go_roundw
      case rel => exact ⟨k + 1, _, by omega, by go_num, hsv.out.1, hnw.out, hgg.out⟩
      case measure => simp [intOf]; omega
    · obtain rfl : k = xs.length := by omega
      have hs := Lib.hid (own3_copied hown hxs)
      have Hg := Lib.hid hgr
      clear hown hxs hgr
      go_wp2
      go_ret
      exact ⟨_, _, rfl, hs.out, Hg.out⟩

set_option maxHeartbeats 1000000 in
theorem eqDeed_yes (n k : Int) (t : ByteArray) (w : World) :
    Calls Tryd.prog 23 #[.agg #[.int .i64 n, .int .i64 k, .string t], .agg #[.int .i64 n, .int .i64 k, .string t]] w fun e w' => e = .returned (.bool true) ∧ w.grownBy w' none := by
  go_enter Tryd.func23, Tryd.ntmps23
  go_wp2
  go_ret
  exact ⟨rfl, grownBy_trans (World.grownBy_alloc _ _ none) (World.grownBy_alloc _ _ none)⟩

def EqRelD (xs : List Dd) (w : World) (i : Value) (wr : World) : Prop := ∃ k : Nat, k ≤ xs.length ∧ i = .int .i64 k ∧ w.grownBy wr none

set_option maxRecDepth 8000 in
set_option maxHeartbeats 2000000 in
theorem eqDeedS_yes (a b : Option Addr) (ca cb : Nat) (xs : List Dd) (w : World) (hx : DdsAt w a xs) (hy : DdsAt w b xs) :
    Calls Tryd.prog 26 #[.slice a xs.length ca, .slice b xs.length cb] w fun e w' => e = .returned (.bool true) ∧ w.grownBy w' none := by
  have hm := hx.1
  unfold maxLen at hm
  have HX := Lib.hid hx
  have HY := Lib.hid hy
  clear hx hy
  go_enter Tryd.func26, Tryd.ntmps26
  go_wp2
  go_loopw [5] (fun i wr => EqRelD xs w i wr) (fun i _ => xs.length - (intOf i).toNat)
  case atStart => exact ⟨0, by omega, rfl, grownBy_refl _ _⟩
  case round =>
    obtain ⟨k, hk, rfl, hgr⟩ := hrel
    have Hgr := Lib.hid hgr
    clear hgr
    by_cases hlt : k < xs.length
    · rcases (HX.out.grown Hgr.out).2 with h0 | ⟨bx, ox, rfl, _, hcx⟩
      · rw [h0] at hlt; simp at hlt
      rcases (HY.out.grown Hgr.out).2 with h0 | ⟨by', oy, rfl, _, hcy⟩
      · rw [h0] at hlt; simp at hlt
      obtain ⟨x0, x1, x2⟩ := hcx k hlt
      obtain ⟨y0, y1, y2⟩ := hcy k hlt
      clear hcx hcy
      generalize xs.getD k nilDd = q at *
      go_wp2_with fail
      go_region_with (go_at_call 23; refine (eqDeed_yes _ _ _ _).mono ?_; rintro e w' ⟨rfl, hg⟩)
      all_goals go_wp2_with fail
      all_goals go_roundw
      all_goals first | (simp [intOf]; omega) | exact ⟨k + 1, by omega, by go_num, grownBy_trans Hgr.out (drew_grown hg)⟩ | exact ⟨k + 1, by omega, by go_num, grownBy_trans Hgr.out (grownBy_trans (grownBy_drewN (grownBy_refl _ _) _) hg)⟩
    · obtain rfl : k = xs.length := by omega
      go_wp2
      go_ret
      exact ⟨rfl, Hgr.out⟩

end Go.Proofs.YtnkebgkocpeonaaDoor

/-
  The draws of chapter 12: deeds.
-/
namespace Go.Proofs.YtnkebgkocpeonaaDoor
open Go.RowKit

def DdsRel (w0 : World) (r P : Nat) (kv ov : Value) (wr : World) : Prop :=
  ∃ (j : Nat) (l : List Dd) (a : Option Addr) (cap : Nat), kv = .int .i64 j ∧ ov = .slice a l.length cap ∧ l.length + j ≤ 5 ∧ Own3 wr w0.heap.size a cap l ∧ (∃ g, a = some ⟨g, 0, none⟩) ∧ (∀ x ∈ l, x.2.2.length ≤ 100) ∧ Rd wr r (P + 501 - j * 100) ∧ w0.grownBy wr (some r)
def DdsDraw (r P : Nat) (w : World) (e : Ending) (w' : World) : Prop := ∃ (l : List Dd) (a : Option Addr) (cap : Nat), e = .returned (.slice a l.length cap) ∧ l.length ≤ 5 ∧ Own3 w' w.heap.size a cap l ∧ (∃ g, a = some ⟨g, 0, none⟩) ∧ (∀ x ∈ l, x.2.2.length ≤ 100) ∧ Rd w' r (P + 600) ∧ w.grownBy w' (some r)
theorem own3_more {w : World} {base : Nat} {v : Value} {xs : List Dd} {x : Dd} (h : w.ownsRow base 24 3 v (xs.length + 1) (ddC xs ++ ddC [x])) : ∃ a cap, v = .slice a (xs.length + 1) cap ∧ Own3 w base a cap (xs ++ [x]) := by
  rw [← ddC_app] at h
  obtain ⟨a, cap, e, hl, ho⟩ := own3_shape h
  have hx : (xs ++ [x]).length = xs.length + 1 := by simp
  rw [hx] at e
  exact ⟨a, cap, e, ho⟩
theorem ddC_news {W : World} {b : Nat} {D : Dd} (h : CellsAt W b #[.int .i64 D.1, .int .i64 D.2.1, .string (bs D.2.2)] 24) : ∀ j u, (ddC [D])[j]? = some u → W.cell? ((⟨b, 0, none⟩ : Addr).add j) = some u := by
  intro j u hu
  rw [add_none]
  match j, hu with
  | 0, hu => cases hu; exact h.cell rfl
  | 1, hu => cases hu; exact h.cell rfl
  | 2, hu => cases hu; exact h.cell rfl
theorem grown_own3 {w0 w w' : World} {r base : Nat} {a : Option Addr} {cap : Nat} {xs : List Dd} (g : w0.grownBy w (some r)) (o : Own3 w base a cap xs) (hb : w0.heap.size ≤ base) (hg : w.grownBy w' (Value.slice a xs.length cap).ownBlock) : w0.grownBy w' (some r) :=
  ⟨hg.os.trans g.os, hg.tape.trans g.tape, hg.output.trans g.output, Nat.le_trans g.size hg.size, fun k hk hn => (hg.block k (Nat.lt_of_lt_of_le hk g.size) (fun e => by have := World.ownsRow.lt o k e.symm; omega)).trans (g.block k hk hn)⟩
theorem rd_own3 {w w' : World} {r P base : Nat} {a : Option Addr} {cap : Nat} {xs : List Dd} (hr : Rd w r P) (o : Own3 w base a cap xs) (hb : r < base) (hg : w.grownBy w' (Value.slice a xs.length cap).ownBlock) : Rd w' r P :=
  hr.kept fun k hk => hg.block k (by have := hr.lt; omega) fun e => by have := World.ownsRow.lt o k e.symm; omega

theorem Own3.way {w : World} {base : Nat} {a : Option Addr} {cap : Nat} {zs : List Dd} (h : Own3 w base a cap zs) : (a = none ∧ zs = []) ∨ ∃ g, a = some ⟨g, 0, none⟩ := by
  rcases h.2 with ⟨h0, h1⟩ | ⟨g, c, cur, he, _⟩
  · simp only [Value.slice.injEq] at h0
    exact .inl ⟨h0.1, List.length_eq_zero_iff.1 h1⟩
  · simp only [Value.slice.injEq] at he
    exact .inr ⟨g, he.1⟩

set_option maxRecDepth 8000 in
set_option maxHeartbeats 4000000 in
theorem deeds_draw (w : World) (r P : Nat) (hr : Rd w r P) (hP : P ≤ 40000) :
    Calls Tryd.prog 55 #[.pointer (some ⟨r, 0, none⟩)] w (DdsDraw r P w) := by
  have hlt := hr.lt
  obtain ⟨i0, hi, hz0, hz1, hz2⟩ := info_parts infoDd
  have hr0 := hr.alloc (.cells #[] 24)
  go_enter Tryd.func55, Tryd.ntmps55
  go_wp2_with fail
  refine (pick_any _ _ _ _ hr0 (by omega)).mono ?_
  rintro e w1 ⟨j0, rfl, hj0, hj1, hr1, hg1⟩
  obtain ⟨j0, rfl⟩ := Int.eq_ofNat_of_zero_le hj0
  have hInit : Hid (DdsRel w r P (.int .i64 (j0 : Int)) (.slice (some ⟨w.heap.size, 0, none⟩) 0 0) w1) := ⟨j0, [], _, 0, rfl, rfl, by simp; omega, (Own3.made w).past hg1 hlt, ⟨_, rfl⟩, by simp, hr1.mono (by omega), grownBy_trans (World.grownBy_alloc _ _ _) hg1⟩
  clear hr0 hr1 hg1 hr
  go_wp2_with fail
  go_loopw [4, 3] (fun kv ov wr => DdsRel w r P kv ov wr) (fun kv _ _ => (intOf kv).toNat)
  case atStart => exact hInit.out
  case round =>
    obtain ⟨j, l, a, cap, rfl, rfl, hlj, ho, hsome, hl, hrr, hgw⟩ := hrel
    by_cases hz : j = 0
    · subst hz
      have R := Lib.hid (show Own3 wr w.heap.size a cap l ∧ (∀ x ∈ l, x.2.2.length ≤ 100) ∧ Rd wr r (P + 501 - 0 * 100) ∧ w.grownBy wr (some r) from ⟨ho, hl, hrr, hgw⟩)
      clear ho hl hrr hgw
      go_wp2_with fail
      go_ret
      exact ⟨l, a, cap, rfl, by omega, R.out.1, hsome, R.out.2.1, R.out.2.2.1.mono (by omega), R.out.2.2.2⟩
    · have HO := Lib.hid ho
      have HL := Lib.hid hl
      have HG := Lib.hid hgw
      have hpos : 0 < (j : Int) := by omega
      clear ho hl hgw
      go_wp2_with fail
      refine (deed_draw _ r (P + 501 - j * 100) hrr (by omega)).mono ?_
      rintro e wa ⟨D, rfl, hDl, hra, hga⟩
      have gX := World.grownBy_alloc wa (.cells #[.int .i64 D.1, .int .i64 D.2.1, .string (bs D.2.2)] 24) none
      have HA := Lib.hid ((HO.out.past hga hlt).kept gX)
      have HN := Lib.hid (CellsAt.new wa #[.int .i64 D.1, .int .i64 D.2.1, .string (bs D.2.2)] 24)
      have HR := Lib.hid (hra.grown gX)
      have G1 := Lib.hid (grownBy_trans (grownBy_trans HG.out hga) (grown_none gX))
      have hsz : w.heap.size ≤ (wa.alloc (.cells #[.int .i64 D.1, .int .i64 D.2.1, .string (bs D.2.2)] 24)).heap.size := G1.out.size
      clear hrr hra hga gX
      go_wp2_with (at_builtin; refine wpList_append_own _ rfl _ _ 32 rfl w.heap.size 24 i0 (.agg #[.int .i64 0, .int .i64 0, .string ⟨#[]⟩]) 3 32 Tryd.underlying32 hi hz0 hz1 hz2 rfl (by decide) _ _ _ rfl HA.out ⟨wa.heap.size, 0, none⟩ 1 1 (ddC [D]) rfl rfl (ddC_news HN.out) (ddC_one [D]) (by unfold maxLen; omega) (by omega) hsz ?_; intro v' w4 hown' hgrow _; obtain ⟨a4, cap4, rfl, ho4⟩ := own3_more hown'; have R4 := Lib.hid (rd_own3 HR.out HA.out hlt hgrow); have G4 := Lib.hid (grown_own3 G1.out HA.out (Nat.le_refl _) hgrow); clear hown' hgrow)
      go_roundw
      case rel => exact ⟨j - 1, l ++ [D], a4, cap4, by congr 1; omega, by simp, by simp; omega, ho4, ho4.way.resolve_left fun q => by simp at q, fun x hx => by
          rcases List.mem_append.1 hx with h | h
          · exact HL.out x h
          · rw [List.mem_singleton] at h; rw [h]; exact hDl, R4.out.mono (by omega), G4.out⟩
      case measure => simp [intOf]; omega

end Go.Proofs.YtnkebgkocpeonaaDoor

/-
  A deed's text read, as the model reads it.
-/
namespace Go.Proofs.YtnkebgkocpeonaaDoor
open Go.RowKit

theorem sct_any (l : List UInt8) (hl : l.length ≤ 2097152) (w : World) : Calls Tryd.prog 41 #[.string (bs l), .int .u8 32] w (ScPost 32 l w) := scut_any 32 l hl w
/-- What lies where while the model looks through its deeds. -/
def SrRel (l : List UInt8) (xs : List Dd) (w : World) (g0 : Nat) (kv : Value) (wr : World) : Prop := ∃ k : Nat, k ≤ xs.length ∧ kv = .int .i64 k ∧ (∀ j, j < k → txD (xs.getD j nilDd) ≠ l) ∧ CellsAt wr w.heap.size #[.int .i64 0, .int .i64 0, .string ⟨#[]⟩] 24 ∧ DdsAt wr (some ⟨g0, 0, none⟩) xs ∧ w.grownBy wr none
theorem all_none {l : List UInt8} {xs : List Dd} (h : ∀ j, j < xs.length → txD (xs.getD j nilDd) ≠ l) : ∀ a ∈ xs, txD a ≠ l := by
  intro a ha
  obtain ⟨j, hj, rfl⟩ := List.mem_iff_getElem.1 ha
  have := h j hj
  rwa [List.getD_eq_getElem?_getD, List.getElem?_eq_getElem hj] at this
theorem row_cells {w : World} {g k : Nat} {xs : List Dd} {K N : Int} {T : List UInt8} (h : DdsAt w (some ⟨g, 0, none⟩) xs) (hk : k < xs.length) (hq : xs.getD k nilDd = (K, N, T)) : w.cell? ⟨g, k * 3, none⟩ = some (.int .i64 K) ∧ w.cell? ⟨g, k * 3 + 1, none⟩ = some (.int .i64 N) ∧ w.cell? ⟨g, k * 3 + 2, none⟩ = some (.string (bs T)) := by
  rcases h.2 with h0 | ⟨b, off, ha, _, hc⟩
  · rw [h0] at hk; simp at hk
  · cases ha
    have := hc k hk
    rw [hq, Nat.zero_add] at this
    exact this
theorem cand_few {l : List UInt8} (h : (cutL 32 l).length ≠ 2) : candL l = cand3 := by
  unfold candL candT
  split
  · rename_i a b e; rw [e] at h; exact absurd rfl h
  · simp
theorem start_few {l : List UInt8} {w w1 : World} (hg : (w.alloc (.cells #[.int .i64 0, .int .i64 0, .string ⟨#[]⟩] 24)).grownBy w1 none) : SrRel l cand3 w w1.heap.size (.int .i64 0) (w1.alloc (.cells #[.int .i64 2, .int .i64 0, .string ⟨#[]⟩, .int .i64 5, .int .i64 0, .string ⟨#[]⟩, .int .i64 6, .int .i64 0, .string ⟨#[]⟩] 24)) :=
  have ga := World.grownBy_alloc w1 (.cells #[.int .i64 2, .int .i64 0, .string ⟨#[]⟩, .int .i64 5, .int .i64 0, .string ⟨#[]⟩, .int .i64 6, .int .i64 0, .string ⟨#[]⟩] 24) none
  ⟨0, by omega, rfl, fun j hj => absurd hj (by omega), ((CellsAt.new w _ _).grown hg).grown ga, Own3.at (base := w1.heap.size) (cap := 3) (World.ownsRow_lit (e := 24) (size := 3) w1 _ 3 (Nat.le_refl _) (by unfold maxLen; omega) rfl), grownBy_trans (grownBy_trans (World.grownBy_alloc _ _ none) hg) ga⟩

set_option maxRecDepth 8000 in
set_option maxHeartbeats 4000000 in
theorem srd_few (l : List UInt8) (hl : l.length ≤ 2097152) (h0 : l ≠ []) (hc : (cutL 32 l).length ≠ 2) (w : World) :
    Calls Tryd.prog 15 #[.string (bs l)] w (RdDPost l w) := by
  have cs := sct_any l hl
  have he := empty_bs h0
  unfold ScPost at cs
  have hc2 : (((cutL 32 l).length : Int) == 2) = false := beq_false_of_ne (by omega)
  have hcd := cand_few hc
  unfold RdDPost
  go_enter Tryd.func15, Tryd.ntmps15
  go_wp2_with (first | (go_at_call 41; refine (cs _).mono ?_; rintro e w1 ⟨a, cap, rfl, hS, hg⟩; have S0 := Lib.hid (start_few (l := l) hg)))
  obtain ⟨g0, hg0⟩ : ∃ g0, w1.heap.size = g0 := ⟨_, rfl⟩
  rw [hg0] at S0 ⊢
  generalize w1.alloc _ = W at *
  clear cs hc2 hg hS hg0 hc
  have SS := S0
  go_loopw [6] (fun kv wr => SrRel l cand3 w g0 kv wr) (fun kv _ => (cand3).length - (intOf kv).toNat)
  case atStart => exact SS.out
  case round =>
    obtain ⟨k, hk, rfl, hall, hB, hX, hgr⟩ := hrel
    have HB := Lib.hid hB
    have HX := Lib.hid hX
    have HG := Lib.hid hgr
    have HA := Lib.hid hall
    have hk3 : k ≤ 3 := hk
    by_cases hlt3 : k < 3
    · have hlt : k < (cand3).length := hlt3
      clear hX hB hgr hall
      generalize hq : (cand3).getD k nilDd = q at *
      obtain ⟨K, N, T⟩ := q
      obtain ⟨x0, x1, x2⟩ := row_cells HX.out hlt hq
      by_cases hx : txD (K, N, T) = l
      · have c2 := stx_v K N T _ (by rw [hx])
        have hr := rdV_some (cand_yes h0 hx)
        unfold ddV at hr
        go_wp2_with (first | (go_at_call 11; refine (c2 _).mono ?_; rintro e w3 ⟨rfl, g3⟩; have H3 := Lib.hid (HB.out.grown g3); obtain ⟨⟨y0, y1, y2⟩, z0, z1, z2⟩ := set_facts H3.out; obtain ⟨u0, u1, u2⟩ := row_cells (HX.out.grown g3) hlt hq))
        exact bodyPost_ret (v := .tuple #[.agg #[.int .i64 K, .int .i64 N, .string (bs T)], .bool true]) (resDdB rfl _ rfl rfl (H3.out.put3 _ _ _)) rfl ⟨by first | rfl | exact (congrArg Ending.returned hr).symm, put3_grown _ (grownBy_trans HG.out g3) (Nat.le_refl _) _ _ _⟩
      · have c2 := stx_v K N T _ rfl
        have hne := bs_ne hx
        rw [← toL_bs (txD (K, N, T))] at hne
        generalize bs (txD (K, N, T)) = X at *
        go_wp2_with (first | (go_at_call 11; refine (c2 _).mono ?_; rintro e w3 ⟨rfl, g3⟩))
        go_roundw
        case rel => exact ⟨k + 1, by omega, by go_num, fun j hj => by
          by_cases e : j = k
          · rw [e, hq]; exact hx
          · exact HA.out j (by omega), HB.out.grown g3, HX.out.grown g3, grownBy_trans HG.out g3⟩
        case measure => simp [intOf]; omega
    · obtain rfl : k = 3 := by omega
      have hr := rdV_none (cand_no (s := l) (.inr (by rw [hcd]; exact all_none HA.out)))
      unfold ddV nilDd at hr
      obtain ⟨⟨y0, y1, y2⟩, z0, z1, z2⟩ := set_facts HB.out
      clear hX hB hgr hall
      go_wp2
      exact bodyPost_ret (v := .tuple #[.agg #[.int .i64 0, .int .i64 0, .string ⟨#[]⟩], .bool false]) (resDdB rfl _ rfl rfl (HB.out.put3 _ _ _)) rfl ⟨by first | rfl | exact (congrArg Ending.returned hr).symm, put3_grown _ HG.out (Nat.le_refl _) _ _ _⟩

theorem cand_many {l A T : List UInt8} (h : cutL 32 l = [A, T]) : candL l = cand3 ++ [(0, digI T, []), (1, 0, T), (3, 0, T), (4, 0, T)] := by
  unfold candL; rw [h]; rfl
theorem news_dd {W : World} {b : Nat} {L : List Dd} (h : CellsAt W b (ddC L).toArray 24) : ∀ j u, (ddC L)[j]? = some u → W.drew.cell? ((⟨b, 0, none⟩ : Addr).add j) = some u := by
  intro j u hu
  rw [add_none, Nat.zero_add]
  exact h.cell (by rw [List.getElem?_toArray]; exact hu)
theorem grD_row {a b c : World} {g : Nat} (h : a.grownBy b none) (hb : a.heap.size ≤ g) (k : b.grownBy c (some g)) : a.grownBy c none :=
  ⟨k.os.trans h.os, k.tape.trans h.tape, k.output.trans h.output, Nat.le_trans h.size k.size, fun i hi hne => (k.block i (Nat.lt_of_lt_of_le hi h.size) (by simp; omega)).trans (h.block i hi hne)⟩
theorem start_many {l : List UInt8} {xs ys : List Dd} {w W W2 w3 : World} {g0 g9 : Nat} {kv : Value} (h : SrRel l xs w g0 kv W) (hd : DdsAt w3 (some ⟨g9, 0, none⟩) ys) (hgt : w.heap.size < g0) (hg : W.grownBy W2 none) (k : W2.grownBy w3 (some g0)) : SrRel l ys w g9 (.int .i64 0) w3 := by
  obtain ⟨_, _, _, _, hB, _, hgr⟩ := h
  exact ⟨0, by omega, rfl, fun j hj => absurd hj (by omega), (hB.grown hg).kept k (by simp; omega), hd, grD_row (grownBy_trans hgr hg) (by omega) k⟩
theorem cut_parts {l A T : List UInt8} {p : UInt8} (h : cutL p l = [A, T]) : T.length ≤ l.length := by
  have := cutL_join p l
  rw [h] at this
  have hl := congrArg List.length this
  simp [joinL] at hl
  omega
set_option maxRecDepth 8000 in
set_option maxHeartbeats 4000000 in
theorem srd_many (l A T : List UInt8) (hl : l.length ≤ 2097152) (h0 : l ≠ []) (hc : cutL 32 l = [A, T]) (w : World) :
    Calls Tryd.prog 15 #[.string (bs l)] w (RdDPost l w) := by
  have cs := sct_any l hl
  have he := empty_bs h0
  unfold ScPost at cs
  rw [hc] at cs
  have hcd := cand_many hc
  have cg := sdig_any T (Nat.le_trans (cut_parts hc) hl)
  obtain ⟨i0, hi, hz0, hz1, hz2⟩ := info_parts infoDd
  clear hc
  unfold RdDPost
  go_enter Tryd.func15, Tryd.ntmps15
  go_wp2_with fail
  refine (cs _).mono ?_
  rintro e w1 ⟨a, cap, rfl, hS, hg⟩
  have S0 := Lib.hid (start_few (l := l) hg)
  obtain ⟨g, rfl, hcx⟩ := hS.grown (World.grownBy_alloc w1 (.cells #[.int .i64 2, .int .i64 0, .string ⟨#[]⟩, .int .i64 5, .int .i64 0, .string ⟨#[]⟩, .int .i64 6, .int .i64 0, .string ⟨#[]⟩] 24) none)
  have t1 := hcx 1 (by simp)
  change _ = some (Value.string (bs T)) at t1
  have O0 := Lib.hid (show Own3 (w1.alloc (.cells #[.int .i64 2, .int .i64 0, .string ⟨#[]⟩, .int .i64 5, .int .i64 0, .string ⟨#[]⟩, .int .i64 6, .int .i64 0, .string ⟨#[]⟩] 24)) w1.heap.size (some ⟨w1.heap.size, 0, none⟩) 3 cand3 from World.ownsRow_lit (e := 24) (size := 3) w1 _ 3 (Nat.le_refl _) (by unfold maxLen; omega) rfl)
  have hgt : Hid (w.heap.size < w1.heap.size) := Lib.hid (by have := hg.size; simp at this; omega)
  clear hS hcx hg
  go_wp2_with fail
  obtain ⟨g0, hg0⟩ : ∃ g0, w1.heap.size = g0 := ⟨_, rfl⟩
  rw [hg0] at S0 O0 hgt ⊢
  have hlt0 : Hid (g0 < (w1.alloc (.cells #[.int .i64 2, .int .i64 0, .string ⟨#[]⟩, .int .i64 5, .int .i64 0, .string ⟨#[]⟩, .int .i64 6, .int .i64 0, .string ⟨#[]⟩] 24)).heap.size) := Lib.hid (by rw [← hg0]; simp)
  generalize w1.alloc _ = W at *
  clear cs hg0
  generalize digI T = V at *
  have HN := CellsAt.new W (ddC [(0, V, []), (1, 0, T), (3, 0, T), (4, 0, T)]).toArray 24
  have gx : W.grownBy (W.alloc (.cells (ddC [(0, V, []), (1, 0, T), (3, 0, T), (4, 0, T)]).toArray 24)).drew none := grownBy_drew (World.grownBy_alloc W _ none)
  obtain ⟨v', w3, hrun, hO, hgr, _⟩ := run_append_own (P := Tryd.prog) (w := (W.alloc (.cells (ddC [(0, V, []), (1, 0, T), (3, 0, T), (4, 0, T)]).toArray 24)).drew) g0 32 32 24 i0 (.agg #[.int .i64 0, .int .i64 0, .string ⟨#[]⟩]) 3 32 Tryd.underlying32 hi hz0 hz1 hz2 rfl (by decide) _ _ _ (O0.out.kept gx) ⟨W.heap.size, 0, none⟩ 4 4 (ddC [(0, V, []), (1, 0, T), (3, 0, T), (4, 0, T)]) rfl (news_dd HN) (ddC_one _) (by unfold maxLen; decide) (by decide) (by have := hlt0.out; have := gx.size; omega)
  rw [← ddC_app] at hO
  obtain ⟨a', cap', rfl, _, hO⟩ := own3_shape hO
  obtain ⟨g9, rfl⟩ := hO.way.resolve_left (by simp [cand3])
  have S9 := Lib.hid (start_many S0.out hO.at hgt.out (grownBy_trans gx (grownBy_refl _ _)) hgr)
  have hU2 := Lib.hid (show (W.alloc (.cells (ddC [(0, V, []), (1, 0, T), (3, 0, T), (4, 0, T)]).toArray 24)).drew.cell? ⟨g, 1, none⟩ = some (.string (bs T)) from (World.cell?_of_block (w := W) (gx.block _ (World.block_lt_of_cell? W _ t1) (by simp))).trans t1)
  have hgne : g ≠ g0 := fun e => by
    subst e
    have ho := World.ownsRow.cellAt (O0.out) 1 (by decide)
    rw [t1] at ho
    simp [cand3, ddC] at ho
  have hU3 := Lib.hid (show w3.cell? ⟨g, 1, none⟩ = some (.string (bs T)) from (World.cell?_of_block (hgr.block _ (World.block_lt_of_cell? _ _ hU2.out) (by simpa [Value.ownBlock] using hgne))).trans hU2.out)
  clear hO hgr HN gx hlt0 hgt S0 O0 hgne
  change (Builtin.append_ #[32, 32] 32 #[.slice (some ⟨g0, 0, none⟩) 3 3, .slice (some ⟨W.heap.size, 0, none⟩) 4 4]).run Tryd.prog (W.alloc (.cells #[.int .i64 0, .int .i64 V, .string ⟨#[]⟩, .int .i64 1, .int .i64 0, .string (bs T), .int .i64 3, .int .i64 0, .string (bs T), .int .i64 4, .int .i64 0, .string (bs T)] 24)).drew = .ok (.slice (some ⟨g9, 0, none⟩) 7 cap') w3 at hrun
  go_region_held_law (fun w' : World => w'.cell? ⟨g, 1, none⟩ = some (.string (bs T))) (first | exact t1 | exact hU2.out | exact hU3.out) (first | (go_at_call 42; refine (cg _).mono ?_; rintro e w2 ⟨rfl, rfl⟩) | (refine step_append_run (by rfl) _ _ _ (by rfl) (.slice (some ⟨g0, 0, none⟩) 3 3) (.slice (some ⟨W.heap.size, 0, none⟩) 4 4) (by rfl) (by rfl) (.slice (some ⟨g9, 0, none⟩) 7 cap') w3 hrun ?_))
  go_wp2_with fail
  have SS := S9
  clear hrun hO cg t1 hU2 hU3 S9
  go_loopw [6] (fun kv wr => SrRel l (cand3 ++ [(0, V, []), (1, 0, T), (3, 0, T), (4, 0, T)]) w g9 kv wr) (fun kv _ => ((cand3 ++ [(0, V, []), (1, 0, T), (3, 0, T), (4, 0, T)])).length - (intOf kv).toNat)
  case atStart => exact SS.out
  case round =>
    obtain ⟨k, hk, rfl, hall, hB, hX, hgr⟩ := hrel
    have HB := Lib.hid hB
    have HX := Lib.hid hX
    have HG := Lib.hid hgr
    have HA := Lib.hid hall
    have hk3 : k ≤ 7 := hk
    by_cases hlt3 : k < 7
    · have hlt : k < ((cand3 ++ [(0, V, []), (1, 0, T), (3, 0, T), (4, 0, T)])).length := hlt3
      clear hX hB hgr hall
      generalize hq : ((cand3 ++ [(0, V, []), (1, 0, T), (3, 0, T), (4, 0, T)])).getD k nilDd = q at *
      obtain ⟨K, N, T⟩ := q
      obtain ⟨x0, x1, x2⟩ := row_cells HX.out hlt hq
      by_cases hx : txD (K, N, T) = l
      · have c2 := stx_v K N T _ (by rw [hx])
        have hr := rdV_some (cand_yes h0 hx)
        unfold ddV at hr
        go_wp2_with (first | (go_at_call 11; refine (c2 _).mono ?_; rintro e w3 ⟨rfl, g3⟩; have H3 := Lib.hid (HB.out.grown g3); obtain ⟨⟨y0, y1, y2⟩, z0, z1, z2⟩ := set_facts H3.out; obtain ⟨u0, u1, u2⟩ := row_cells (HX.out.grown g3) hlt hq))
        exact bodyPost_ret (v := .tuple #[.agg #[.int .i64 K, .int .i64 N, .string (bs T)], .bool true]) (resDdB rfl _ rfl rfl (H3.out.put3 _ _ _)) rfl ⟨by first | rfl | exact (congrArg Ending.returned hr).symm, put3_grown _ (grownBy_trans HG.out g3) (Nat.le_refl _) _ _ _⟩
      · have c2 := stx_v K N T _ rfl
        have hne := bs_ne hx
        rw [← toL_bs (txD (K, N, T))] at hne
        generalize bs (txD (K, N, T)) = X at *
        go_wp2_with (first | (go_at_call 11; refine (c2 _).mono ?_; rintro e w3 ⟨rfl, g3⟩))
        go_roundw
        case rel => exact ⟨k + 1, by omega, by go_num, fun j hj => by
          by_cases e : j = k
          · rw [e, hq]; exact hx
          · exact HA.out j (by omega), HB.out.grown g3, HX.out.grown g3, grownBy_trans HG.out g3⟩
        case measure => simp [intOf]; omega
    · obtain rfl : k = 7 := by omega
      have hr := rdV_none (cand_no (s := l) (.inr (by rw [hcd]; exact all_none HA.out)))
      unfold ddV nilDd at hr
      obtain ⟨⟨y0, y1, y2⟩, z0, z1, z2⟩ := set_facts HB.out
      clear hX hB hgr hall
      go_wp2
      exact bodyPost_ret (v := .tuple #[.agg #[.int .i64 0, .int .i64 0, .string ⟨#[]⟩], .bool false]) (resDdB rfl _ rfl rfl (HB.out.put3 _ _ _)) rfl ⟨by first | rfl | exact (congrArg Ending.returned hr).symm, put3_grown _ HG.out (Nat.le_refl _) _ _ _⟩

set_option maxRecDepth 8000 in
set_option maxHeartbeats 4000000 in
theorem srd_nil (w : World) : Calls Tryd.prog 15 #[.string ⟨#[]⟩] w (RdDPost [] w) := by
  have cs := sct_any [] (by decide)
  unfold ScPost at cs
  have hr := rdV_none (cand_no (s := []) (.inl rfl))
  unfold ddV nilDd at hr
  unfold RdDPost
  rw [hr]
  go_enter Tryd.func15, Tryd.ntmps15
  go_wp2_with fail
  refine (cs _).mono ?_
  rintro e w1 ⟨a, cap, rfl, hS, hg⟩
  have S0 := Lib.hid (start_few (l := []) hg)
  clear hS cs
  have e1 : (cutL 32 []).length = 1 := rfl
  rw [e1]
  go_wp2_with fail
  obtain ⟨g0, hg0⟩ : ∃ g0, w1.heap.size = g0 := ⟨_, rfl⟩
  rw [hg0] at S0 ⊢
  generalize w1.alloc _ = W at *
  clear hg hg0
  go_loopw [6] (fun kv wr => (∃ k : Nat, k ≤ 3 ∧ kv = .int .i64 k) ∧ wr = W) (fun kv _ => 3 - (intOf kv).toNat)
  case atStart => exact ⟨⟨0, by omega, rfl⟩, rfl⟩
  case round =>
    obtain ⟨⟨k, hk, rfl⟩, rfl⟩ := hrel
    by_cases hlt : k < 3
    · go_wp2
      go_roundw
      case rel => exact ⟨⟨k + 1, by omega, by go_num⟩, by first | rfl | trivial⟩
      case measure => simp [intOf]; omega
    · obtain rfl : k = 3 := by omega
      have HB := Lib.hid S0.out.choose_spec.2.2.2.1
      have HG := Lib.hid S0.out.choose_spec.2.2.2.2.2
      obtain ⟨⟨y0, y1, y2⟩, z0, z1, z2⟩ := set_facts HB.out
      go_wp2
      exact bodyPost_ret (v := .tuple #[.agg #[.int .i64 0, .int .i64 0, .string ⟨#[]⟩], .bool false]) (resDdB rfl _ rfl rfl (HB.out.put3 _ _ _)) rfl ⟨rfl, put3_grown _ HG.out (Nat.le_refl _) _ _ _⟩
theorem srd_any (l : List UInt8) (hl : l.length ≤ 2097152) (w : World) : Calls Tryd.prog 15 #[.string (bs l)] w (RdDPost l w) := by
  by_cases h0 : l = []
  · subst h0; exact srd_nil w
  · by_cases hc : (cutL 32 l).length = 2
    · match hq : cutL 32 l, hc with
      | [A, T], _ => exact srd_many l A T hl h0 hq w
    · exact srd_few l hl h0 hc w

end Go.Proofs.YtnkebgkocpeonaaDoor

/-
  The walk of FnExactReadDeed.
-/
namespace Go.Proofs.YtnkebgkocpeonaaDoor
open Go.RowKit

theorem srd_v (l : List UInt8) (v : Value) (h : rdV l = v) (w : World) (hl : l.length ≤ 2097152) : Calls Tryd.prog 15 #[.string (bs l)] w fun e w' => e = .returned v ∧ w.grownBy w' none := by rw [← h]; exact srd_any l hl w
theorem rdV_ways (l : List UInt8) : ∃ (K N : Int) (T : List UInt8) (b : Bool), rdV l = .tuple #[.agg #[.int .i64 K, .int .i64 N, .string (bs T)], .bool b] := by
  cases h : rdD l with
  | none => exact ⟨0, 0, [], false, rdV_none h⟩
  | some a => exact ⟨a.1, a.2.1, a.2.2, true, rdV_some h⟩

set_option maxRecDepth 100000 in
set_option maxHeartbeats 4000000 in
theorem FnExactReadDeed_walk (a0 : ByteArray) (_w0 : a0.size ≤ maxLen) (w : World) (hT : WdAt w ∧ ErAt w) :
    Calls Tryd.prog 7 #[.string a0] w fun e w' => e = .returned (.bool true) ∧ Below w.heap.size w w' := by
  by_cases hl : (1048576 : Int) < (a0.size : Int)
  · go_enter Tryd.func7, Tryd.ntmps7
    go_wp2_with fail
    go_ret
    exact ⟨rfl, Below.refl _ _⟩
  · obtain ⟨K, N, T, b, hv⟩ := rdV_ways (bl a0)
    have hz := bl_size a0
    have hlen : (bl a0).length ≤ 1048576 := by omega
    have c1 := ird_v (bl a0) _ hv
    have c2 := srd_v (bl a0) _ hv
    rw [bs_bl] at c1 c2
    have HL := Lib.hid (show (bl a0).length ≤ L48 from Nat.le_trans hlen (by decide))
    have HL2 := Lib.hid (show (bl a0).length ≤ 2097152 from Nat.le_trans hlen (by decide))
    have HT := Lib.hid hT
    clear hT hv hz hlen
    go_enter Tryd.func7, Tryd.ntmps7
    go_wp2_with fail
    refine (c2 _ HL2.out).mono ?_
    rintro e w1 ⟨rfl, g1⟩
    have G1 := Lib.hid (grownBy_trans g1 (World.grownBy_alloc w1 (.cells #[.int .i64 K, .int .i64 N, .string (bs T)] 24) none))
    have B1 := Lib.hid (CellsAt.new w1 #[.int .i64 K, .int .i64 N, .string (bs T)] 24)
    clear c2 g1
    go_wp2_with fail
    refine (c1 _ (HT.out.1.grown G1.out) (HT.out.2.grown G1.out) HL.out).mono ?_
    rintro e w2 ⟨rfl, g2⟩
    have gA := World.grownBy_alloc w2 (.cells #[.int .i64 K, .int .i64 N, .string (bs T)] 24) none
    have G2 := Lib.hid (grownBy_trans (grownBy_trans G1.out g2) gA)
    obtain ⟨x0, x1, x2⟩ := ((B1.out.grown g2).grown gA).three
    obtain ⟨y0, y1, y2⟩ := (CellsAt.new w2 #[.int .i64 K, .int .i64 N, .string (bs T)] 24).three
    have ce := eqDeed_yes K N (bs T)
    clear c1 g2 gA
    go_wp2_with (first | (go_at_call 23; refine (ce _).mono ?_; rintro e w3 ⟨rfl, g3⟩))
    all_goals go_ret
    all_goals first | exact ⟨rfl, below_of (grownBy_trans G2.out g3)⟩ | exact ⟨rfl, below_of (grownBy_trans G2.out (drew_grown g3))⟩
end Go.Proofs.YtnkebgkocpeonaaDoor

/-
  The draw of a deed's text, as it is or spoilt.
-/
namespace Go.Proofs.YtnkebgkocpeonaaDoor
open Go.RowKit

def SpPost (n r P : Nat) (w : World) (e : Ending) (w' : World) : Prop := ∃ l : List UInt8, e = .returned (.string (bs l)) ∧ l.length ≤ n ∧ Rd w' r (P + 2) ∧ w.grownBy w' (some r)
def spoL (j : Nat) : List UInt8 := [[], [48], [32], [10], [45], [98, 97, 99, 107]].getD j []
theorem spoL_len {j : Nat} (h : j < 6) : (spoL j).length ≤ 4 := by
  match j, h with
  | 0, _ => decide
  | 1, _ => decide
  | 2, _ => decide
  | 3, _ => decide
  | 4, _ => decide
  | 5, _ => decide
theorem spo_cell {W : World} {b j : Nat} (h : CellsAt W b #[.string ⟨#[]⟩, .string ⟨#[48]⟩, .string ⟨#[32]⟩, .string ⟨#[10]⟩, .string ⟨#[45]⟩, .string ⟨#[98, 97, 99, 107]⟩] 9) (hj : j < 6) : W.cell? ⟨b, j, none⟩ = some (.string (bs (spoL j))) := by
  match j, hj with
  | 0, _ => exact h.cell rfl
  | 1, _ => exact h.cell rfl
  | 2, _ => exact h.cell rfl
  | 3, _ => exact h.cell rfl
  | 4, _ => exact h.cell rfl
  | 5, _ => exact h.cell rfl

theorem sp_new {J : Nat} (h : J < 6) (W : World) : (W.alloc (.cells #[.string ⟨#[]⟩, .string ⟨#[48]⟩, .string ⟨#[32]⟩, .string ⟨#[10]⟩, .string ⟨#[45]⟩, .string ⟨#[98, 97, 99, 107]⟩] 9)).cell? ⟨W.heap.size, J, none⟩ = some (.string (bs (spoL J))) := spo_cell (CellsAt.new W _ _) h
theorem sp_old {J r : Nat} (h : J < 6) {W w2 : World} (hg : (W.alloc (.cells #[.string ⟨#[]⟩, .string ⟨#[48]⟩, .string ⟨#[32]⟩, .string ⟨#[10]⟩, .string ⟨#[45]⟩, .string ⟨#[98, 97, 99, 107]⟩] 9)).drew.grownBy w2 (some r)) (hlt : r < W.heap.size) : w2.cell? ⟨W.heap.size, J, none⟩ = some (.string (bs (spoL J))) := spo_cell ((CellsAt.new W _ _).kept (show (W.alloc _).grownBy w2 (some r) from ⟨hg.os, hg.tape, hg.output, hg.size, hg.block⟩) (by simp; omega)) h
theorem sp_undrew {a b : World} {r : Nat} (h : a.drew.grownBy b (some r)) : a.grownBy b (some r) := ⟨h.os, h.tape, h.output, h.size, h.block⟩
theorem wrapK {K n : Nat} (h : K < n) (hn : n ≤ 1000) : wrap64 ((K : Int) + 1) = (K : Int) + 1 := by unfold wrap64; omega
theorem six_of {J : Nat} (h : (J : Int) < 6 ∨ (J : Int) = 0) : J < 6 := by omega

theorem sl_hi (s : ByteArray) (K : Nat) (h : K + 1 ≤ s.size) (W : World) : (Instr.sliceAt 9 (.string s) (some (.int .i64 ((K : Int) + 1))) none none).run Tryd.prog W = .ok (.string (s.extract (K + 1) s.size)) W := by
  have f3 : (0 : Int) ≤ (K : Int) + 1 := by omega
  have f4 : (K : Int) + 1 ≤ (s.size : Int) := by omega
  have f9 : ((K : Int) + 1).toNat = K + 1 := by omega
  go_simp
theorem sl_lo (s : ByteArray) (K : Nat) (h : K ≤ s.size) (W : World) : (Instr.sliceAt 9 (.string s) none (some (.int .i64 (K : Int))) none).run Tryd.prog W = .ok (.string (s.extract 0 K)) W := by
  have f4 : (K : Int) ≤ (s.size : Int) := by omega
  go_simp
def SpcPost (s : ByteArray) (n r P : Nat) (w : World) (e : Ending) (w' : World) : Prop := ∃ J K : Nat, J < 6 ∧ K < n ∧ e = .returned (.string (s.extract 0 K ++ bs (spoL J) ++ s.extract (K + 1) s.size)) ∧ Rd w' r (P + 2) ∧ w.grownBy w' (some r)

set_option maxRecDepth 8000 in
set_option maxHeartbeats 4000000 in
theorem spoil_core (s : ByteArray) (n : Nat) (hs : Hid (s.size = n)) (hl : n ≤ 1000) (hn0 : 0 < n) (w : World) (r P : Nat) (hr : Rd w r P) (hP : P ≤ 60000) :
    Calls Tryd.prog 40 #[.pointer (some ⟨r, 0, none⟩), .string s] w (SpcPost s n r P w) := by
  have hlt := hr.lt
  have e0 : ((s.size : Int) == 0) = false := beq_false_of_ne (by have := hs.out; omega)
  have cp : ∀ w, Rd w r P → Calls Tryd.prog 39 #[.pointer (some ⟨r, 0, none⟩), .int .i64 (s.size : Int)] w (fun e w' => ∃ k : Nat, e = .returned (.int .i64 k) ∧ k < n ∧ Rd w' r (P + 1) ∧ w.grownBy w' (some r)) := fun w hr => by
    rw [hs.out]
    refine (pick_any _ _ _ _ hr (by omega)).mono ?_
    rintro e w1 ⟨k, rfl, hk0, hk1, hr1, hg1⟩
    obtain ⟨K, rfl⟩ := Int.eq_ofNat_of_zero_le hk0
    exact ⟨K, rfl, by omega, hr1, hg1⟩
  go_enter Tryd.func40, Tryd.ntmps40
  go_wp2_with fail
  refine (cp _ hr).mono ?_
  rintro e w1 ⟨K, rfl, hK, hr1, hg1⟩
  clear cp e0
  have hlt1 := hr1.lt
  have hKs : K + 1 ≤ s.size := by have := hs.out; omega
  have w1' := wrapK hK hl
  have w2' : IntKind.i64.wrap ((K : Int) + 1) = (K : Int) + 1 := IntWalk.i64_in _ (by omega)
  obtain ⟨E1, hE1⟩ : ∃ E, E = s.extract 0 K := ⟨_, rfl⟩
  obtain ⟨E2, hE2⟩ : ∃ E, E = s.extract (K + 1) s.size := ⟨_, rfl⟩
  have r1 := sl_lo s K (by omega)
  have r2 := sl_hi s K hKs
  rw [← hE1] at r1
  rw [← hE2] at r2
  have z1 : E1.size ≤ 1000 := by rw [hE1, ByteArray.size_extract]; have := hs.out; omega
  have z2 : E2.size ≤ 1000 := by rw [hE2, ByteArray.size_extract]; have := hs.out; omega
  have Z1 := Lib.hid z1
  have Z2 := Lib.hid z2
  have HE1 := Lib.hid hE1
  have HE2 := Lib.hid hE2
  clear z1 z2 hE1 hE2 hKs
  go_wp2_with fail
  have n0 := Lib.hid (fun (J : Nat) (h : J < 6) (W : World) => sp_new h W)
  have n9 := Lib.hid (fun (J : Nat) (h : J < 6) (W w2 : World) hg hlt => sp_old (r := r) (W := W) (w2 := w2) h hg hlt)
  go_region_with (first | (go_at_call 39; (with_reducible refine (pick_any 6 _ r (P + 1) (by first | with_reducible exact hr1.drewn | with_reducible exact (hr1.alloc _).drewn) (by omega)).mono ?_); rintro e w2 ⟨j, rfl, hj0, hj1, hr2, hg2⟩; obtain ⟨J, rfl⟩ := Int.eq_ofNat_of_zero_le hj0; have hJ := six_of hj1; have J6 : (J : Int) < 6 := (by omega); have n1 := n0.out J hJ w2; (first | (have n2 := n9.out J hJ _ _ hg2 hlt1) | skip); obtain ⟨T6, hT6⟩ : ∃ T, T = bs (spoL J) := ⟨_, rfl⟩; rw [← hT6] at n1; (first | (rw [← hT6] at n2) | skip); have o1 : ¬ (9223372036854775807 < E1.size + T6.size) := (by rw [hT6, bs_size]; have := spoL_len hJ; have := Z1.out; omega); have o2 : ¬ (9223372036854775807 < E1.size + T6.size + E2.size) := (by rw [hT6, bs_size]; have := spoL_len hJ; have := Z1.out; have := Z2.out; omega); have HT6 := Lib.hid hT6; clear hT6))
  all_goals go_wp2_with fail
  all_goals go_ret
  all_goals refine ⟨J, K, hJ, hK, by rw [← HE1.out, ← HE2.out, ← HT6.out]; rfl, ?_, ?_⟩
  all_goals first | exact hr2 | exact hr2.alloc _ | skip
  all_goals first | exact grownBy_trans hg1 (grownBy_trans (grown_none (World.grownBy_alloc _ _ none)) (sp_undrew hg2)) | exact grownBy_trans (grownBy_trans hg1 (sp_undrew hg2)) (grown_none (World.grownBy_alloc _ _ none))

theorem spoil_any (l : List UInt8) (hl : l.length ≤ 1000) (w : World) (r P : Nat) (hr : Rd w r P) (hP : P ≤ 60000) :
    Calls Tryd.prog 40 #[.pointer (some ⟨r, 0, none⟩), .string (bs l)] w (SpPost (l.length + 4) r P w) := by
  by_cases h0 : l.length = 0
  · have hl0 : l = [] := List.length_eq_zero_iff.1 h0
    subst hl0
    rw [show bs ([] : List UInt8) = ⟨#[]⟩ from rfl]
    go_enter Tryd.func40, Tryd.ntmps40
    go_wp2_with fail
    go_ret
    exact ⟨[10], rfl, by simp, hr.mono (by omega), grownBy_refl _ _⟩
  · refine (spoil_core (bs l) l.length (Lib.hid (bs_size l)) hl (by omega) w r P hr hP).mono ?_
    rintro e w' ⟨J, K, hJ, hK, rfl, hr', hg'⟩
    have := spoL_len hJ
    refine ⟨l.take K ++ spoL J ++ l.drop (K + 1), ?_, ?_, hr', hg'⟩
    · rw [ext_bs, ext_bs, bs_size, bs_app, bs_app]
      simp [List.take_of_length_le]
    · simp; omega

end Go.Proofs.YtnkebgkocpeonaaDoor

/-
  The walk of FnReadDeed, out of what spoils a text.
-/
namespace Go.Proofs.YtnkebgkocpeonaaDoor
open Go.RowKit

def DrdPost (w : World) (e : Ending) (w' : World) : Prop := ∃ l : List UInt8, e = .returned (.string (bs l)) ∧ l.length ≤ 70 ∧ w.grownBy w' none
set_option maxRecDepth 8000 in
set_option maxHeartbeats 2000000 in
theorem DrawReadDeed_any (a : Option Addr) (len cap : Nat) (zs : List Int) (w : World) (h : IsRow .u8 w a len cap zs) :
    Calls Tryd.prog 14 #[.slice a len cap] w (DrdPost w) := by
  go_enter Tryd.func14, Tryd.ntmps14
  go_wp2_with fail
  refine (open_draw a len cap zs _ h).mono ?_
  rintro e w1 ⟨rfl, hr1, hg1⟩
  clear h
  go_wp2_with fail
  refine (deed_draw _ _ _ hr1 (by omega)).mono ?_
  rintro e w2 ⟨D, rfl, hD, hr2, hg2⟩
  have hgg := grownBy_own hg1 hg2
  go_wp2_with fail
  refine (stx_any D _).mono ?_
  rintro e w3 ⟨rfl, hg3⟩
  have hr3 := hr2.grown hg3
  have hlen := tx_len D
  generalize txD D = l at *
  clear hr1 hr2 hg1 hg2 hD
  go_wp2_with fail
  refine (pick_any _ _ _ _ hr3 (by omega)).mono ?_
  rintro e w4 ⟨k, rfl, hk0, hk1, hr4, hg4⟩
  have hg5 := grownBy_own (grownBy_trans hgg hg3) hg4
  by_cases hk : k = 0
  · subst hk
    go_wp2_with fail
    refine (spoil_any l (by omega) _ _ _ hr4 (by omega)).mono ?_
    rintro e w5 ⟨m, rfl, hm, hr5, hg6⟩
    go_wp2_with fail
    go_ret
    exact ⟨m, rfl, by omega, grownBy_own hg5 hg6⟩
  · have hne : (k == 0) = false := beq_false_of_ne hk
    go_wp2_with fail
    go_ret
    exact ⟨l, rfl, by omega, hg5⟩

set_option maxRecDepth 100000 in
set_option maxHeartbeats 4000000 in
theorem FnReadDeed_walk (a0 : Option Addr) (len0 cap0 : Nat) (z0 : List Int) (w : World) (w0 : IsRow .u8 w a0 len0 cap0 z0) (hT : WdAt w ∧ ErAt w) :
    Calls Tryd.prog 4 #[.slice a0 len0 cap0] w fun e w' => e = .returned (.bool true) ∧ Below w.heap.size w w' := by
  by_cases hl : (1048576 : Int) < (len0 : Int)
  · clear w0
    go_enter Tryd.func4, Tryd.ntmps4
    go_wp2_with fail
    go_ret
    exact ⟨rfl, Below.refl _ _⟩
  · go_enter Tryd.func4, Tryd.ntmps4
    go_wp2_with fail
    refine (DrawReadDeed_any _ _ _ _ _ w0).mono ?_
    rintro e w1 ⟨l, rfl, hlen, g1⟩
    clear w0
    have HT := Lib.hid hT
    have HL := Lib.hid (show l.length ≤ L48 from Nat.le_trans hlen (by decide))
    have HL2 := Lib.hid (show l.length ≤ 2097152 from Nat.le_trans hlen (by decide))
    have HL3 := Lib.hid (show (l ++ [32]).length ≤ L48 from Nat.le_trans (by simp; omega : _ ≤ 71) (by decide))
    have hz := bs_size l
    clear hT
    cases hq : rdD l with
    | none =>
      have c1 := ird_v l _ (rdV_none hq)
      have c2 := srd_v l _ (rdV_none hq)
      unfold ddV nilDd at c1 c2
      rw [show bs ([] : List UInt8) = ⟨#[]⟩ from rfl] at c1 c2
      go_wp2_with fail
      refine (c1 _ (HT.out.1.grown g1) (HT.out.2.grown g1) HL.out).mono ?_
      rintro e w2 ⟨rfl, g2⟩
      have gA := World.grownBy_alloc w2 (.cells #[.int .i64 0, .int .i64 0, .string ⟨#[]⟩] 24) none
      have B1 := Lib.hid (CellsAt.new w2 #[.int .i64 0, .int .i64 0, .string ⟨#[]⟩] 24)
      have G2 := Lib.hid (grownBy_trans (grownBy_trans g1 g2) gA)
      clear g1 g2 gA c1
      go_wp2_with fail
      refine (c2 _ HL2.out).mono ?_
      rintro e w3 ⟨rfl, g3⟩
      have gB := World.grownBy_alloc w3 (.cells #[.int .i64 0, .int .i64 0, .string ⟨#[]⟩] 24) none
      obtain ⟨x0, x1, x2⟩ := ((B1.out.grown g3).grown gB).three
      obtain ⟨y0, y1, y2⟩ := (CellsAt.new w3 #[.int .i64 0, .int .i64 0, .string ⟨#[]⟩] 24).three
      have G3 := Lib.hid (grownBy_trans (grownBy_trans G2.out g3) gB)
      clear g3 gB c2
      go_wp2_with (first | (go_at_call 12; refine (alive_any _).mono ?_; rintro e w' ⟨rfl, rfl⟩))
      all_goals go_ret
      all_goals exact ⟨rfl, below_of G3.out⟩
    | some D =>
      obtain ⟨K, N, T⟩ := D
      have c1 := ird_v l _ (rdV_some hq)
      have c2 := srd_v l _ (rdV_some hq)
      have c3 := ird_v (l ++ [32]) _ (rdV_none (rd_space l))
      rw [← bs_app l [32]] at c3
      have c4 := itx_v K N T (bs l) (by rw [tx_rd hq])
      unfold ddV at c1 c2 c3
      unfold nilDd at c3
      rw [show bs ([] : List UInt8) = ⟨#[]⟩ from rfl] at c3
      rw [show bs [32] = ⟨#[32]⟩ from rfl] at c3
      have C3 := Lib.hid c3
      have C4 := Lib.hid c4
      have hs70 : (bs l).size ≤ 70 := by omega
      clear hq c3 c4 hz hlen
      go_wp2_with fail
      refine (c1 _ (HT.out.1.grown g1) (HT.out.2.grown g1) HL.out).mono ?_
      rintro e w2 ⟨rfl, g2⟩
      have gA := World.grownBy_alloc w2 (.cells #[.int .i64 K, .int .i64 N, .string (bs T)] 24) none
      have B1 := Lib.hid (CellsAt.new w2 #[.int .i64 K, .int .i64 N, .string (bs T)] 24)
      have G2 := Lib.hid (grownBy_trans (grownBy_trans g1 g2) gA)
      clear g1 g2 gA c1
      go_wp2_with fail
      refine (c2 _ HL2.out).mono ?_
      rintro e w3 ⟨rfl, g3⟩
      have gB := World.grownBy_alloc w3 (.cells #[.int .i64 K, .int .i64 N, .string (bs T)] 24) none
      have B2 := Lib.hid ((B1.out.grown g3).grown gB)
      obtain ⟨x0, x1, x2⟩ := B2.out.three
      obtain ⟨y0, y1, y2⟩ := (CellsAt.new w3 #[.int .i64 K, .int .i64 N, .string (bs T)] 24).three
      have G3 := Lib.hid (grownBy_trans (grownBy_trans G2.out g3) gB)
      clear g3 gB c2
      go_wp2_with fail
      refine (C3.out _ (HT.out.1.grown G3.out) (HT.out.2.grown G3.out) HL3.out).mono ?_
      rintro e w4 ⟨rfl, g4⟩
      obtain ⟨p0, p1, p2⟩ := (B2.out.grown g4).three
      have G4 := Lib.hid (grownBy_trans G3.out g4)
      have gC := Lib.hid (World.grownBy_alloc w4 (.cells #[.int .i64 0, .int .i64 0, .string ⟨#[]⟩] 24) none)
      obtain ⟨q0, q1, q2⟩ := ((B2.out.grown g4).grown gC.out).three
      clear g4
      go_wp2_with (first | (go_at_call 10; refine (C4.out _ (by first | with_reducible exact HT.out.1.grown G4.out | with_reducible exact HT.out.1.grown (grownBy_trans G4.out gC.out))).mono ?_; rintro e w5 ⟨rfl, g5⟩))
      all_goals go_ret
      all_goals first | exact ⟨rfl, below_of (grownBy_trans G4.out g5)⟩ | exact ⟨rfl, below_of (grownBy_trans (grownBy_trans G4.out gC.out) g5)⟩

end Go.Proofs.YtnkebgkocpeonaaDoor

/-
  From the premise that the listed variables lie as the program's text lays them: the words of deeds, and the library's two errors.
-/
namespace Go.Proofs.YtnkebgkocpeonaaDoor
open Go.ChangeShapes Go.WideShapes Go.ChangeAt Go.RowKit Go.Stop

theorem dword_list : (Rows.laid_loop_example_manyvalues_impl_deedWords : DataW Unit) = .agg (wordsL.map fun l => (DataW.lit (.string l) : DataW Unit)) := by kernel_rfl

theorem dword_cells {W : World} {g t f : Nat} {cs : Array Value} {p : List MemPlace} (hg : Tryd.prog.globalNamed "loop.example/manyvalues/impl.deedWords" = some g) (ht : (Tryd.prog.globals[g]?).map (·.type) = some t) (hv : W.var? Tryd.prog "loop.example/manyvalues/impl.deedWords" = some cs)
    (hd : DataW.trod (fun _ => ()) Tryd.prog W 0 (fun _ => true) false f t cs.toList = some (Rows.laid_loop_example_manyvalues_impl_deedWords, p)) : WdAt W := by
  rw [dword_list] at hd
  obtain rfl := Option.some.inj ((show Tryd.prog.globalNamed "loop.example/manyvalues/impl.deedWords" = some 0 by kernel_rfl).symm.trans hg)
  obtain rfl := Option.some.inj ((show (Tryd.prog.globals[0]?).map (·.type) = some 51 by kernel_rfl).symm.trans ht)
  obtain ⟨xs, m, _, ex, _, hl, hel⟩ := DataW.trod_array Tryd.underlying51 hd
  have hc1 : Tryd.prog.cellsOf 9 = 1 := by kernel_rfl
  have hlen : wordsL.length = 7 := rfl
  have e3 : (xs.map (·.1)) = wordsL.map fun l => (DataW.lit (.string l) : DataW Unit) := (DataW.agg.inj (Prod.mk.inj ex).1).symm
  have hxl : xs.length = 7 := by
    have := congrArg List.length e3
    simpa [hlen] using this
  have hc : ∀ r, r < 7 → W.cell? ⟨0, r, none⟩ = some (.string (bs (wordsL.getD r []))) := by
    intro r hr
    have hE := hel r (by omega)
    rw [hc1, Nat.mul_one, List.getElem?_eq_getElem (by omega)] at hE
    obtain ⟨z, e1, e2, _⟩ := DataW.trod_string Tryd.underlying9 hE
    have e4 : (xs.map (·.1))[r]? = (wordsL.map fun l => (DataW.lit (.string l) : DataW Unit))[r]? := by rw [e3]
    rw [List.getElem?_map, List.getElem?_map, List.getElem?_eq_getElem (by omega : r < xs.length), List.getElem?_eq_getElem (by omega : r < wordsL.length), e2] at e4
    have hz : z = bs (wordsL.getD r []) := by
      simp only [Option.map_some, Option.some.injEq, DataW.lit.injEq, Lit.string.injEq] at e4
      rw [List.getD_eq_getElem?_getD, List.getElem?_eq_getElem (by omega : r < wordsL.length), Option.getD_some, ← e4]
      exact (bs_bl z).symm
    rw [World.var?_cell hg hv r, ← hz]
    have : cs.toList[r]? = some (.string z) := by
      have h0 : ((cs.toList.drop r).take 1)[0]? = some (.string z) := by rw [e1]; rfl
      simpa using h0
    simpa using this
  exact ⟨World.block_lt_of_cell? W _ (hc 0 (by decide)), hc⟩

theorem wd_of_met {r : List (String × DataW Unit)} {W : World} (h : laidMet Tryd.prog (("loop.example/manyvalues/impl.deedWords", Rows.laid_loop_example_manyvalues_impl_deedWords) :: r) W) : WdAt W := by
  obtain ⟨ps, ⟨g0, t0, cs0, f0, p0, q0, hg0, ht0, hv0, hd0, _⟩, _⟩ := h
  exact dword_cells hg0 ht0 hv0 hd0

theorem er_star : "*" ++ "errors.errorString" = "*errors.errorString" := by decide
theorem er_type (u : TypeId) (h : Tryd.prog.typeName? 3 u = some "*errors.errorString") : u = 131 :=
  typeName_ptr_named (nm := "errors.errorString") (by rw [er_star]; kernel_rfl) (by kernel_rfl) (by decide) u (by rw [er_star]; exact h)
theorem er_cells : Tryd.prog.cellsOf 133 = 1 := by kernel_rfl
theorem er_cells9 : Tryd.prog.cellsOf 9 = 1 := by kernel_rfl
theorem er_iface {n : String} {g : Nat} {l : List UInt8} {r : List (String × DataW Unit)} {W : World} (h : laidMet Tryd.prog ((n, .iface "*errors.errorString" (.ptr (.agg [.lit (.string l)]))) :: r) W) (hg : Tryd.prog.globalNamed n = some g) (ht : (Tryd.prog.globals[g]?).map (·.type) = some 68) : ∃ tp p, W.cell? ⟨g, 0, none⟩ = some (.iface tp p) := by
  obtain ⟨a, s, hv, _, _, _⟩ := laid_sentinel h hg ht Tryd.underlying68 er_type Tryd.underlying131 Tryd.underlying133 rfl rfl Tryd.underlying9 er_cells er_cells9
  exact ⟨_, _, by simpa using World.var?_cell hg hv 0⟩

def laid6 : List (String × DataW Unit) := [("math/bits.deBruijn32tab", Rows.laid_math_bits_deBruijn32tab), ("math/bits.deBruijn64tab", Rows.laid_math_bits_deBruijn64tab), ("internal/strconv.uint64pow10", Rows.laid_internal_strconv_uint64pow10), ("strconv.ErrRange", Rows.laid_strconv_ErrRange), ("strconv.ErrSyntax", Rows.laid_strconv_ErrSyntax), ("loop.example/manyvalues/impl.deedWords", Rows.laid_loop_example_manyvalues_impl_deedWords)]
def laid4 : List (String × DataW Unit) := [("math/bits.deBruijn32tab", Rows.laid_math_bits_deBruijn32tab), ("math/bits.deBruijn64tab", Rows.laid_math_bits_deBruijn64tab), ("internal/strconv.uint64pow10", Rows.laid_internal_strconv_uint64pow10), ("loop.example/manyvalues/impl.deedWords", Rows.laid_loop_example_manyvalues_impl_deedWords)]
theorem wd_of_laid6 {W : World} (h : laidMetH Tryd.prog laid6 W) : WdAt W ∧ ErAt W := by
  rw [MakeChecks.laidMetH_plain _ _ _ (by kernel_rfl)] at h
  have h3 : laidMet Tryd.prog _ W := h.tail.tail.tail
  exact ⟨wd_of_met h3.tail.tail, er_iface h3.tail (by kernel_rfl) (by kernel_rfl), er_iface h3 (by kernel_rfl) (by kernel_rfl)⟩
theorem wd_of_laid4 {W : World} (h : laidMetH Tryd.prog laid4 W) : WdAt W := by
  rw [MakeChecks.laidMetH_plain _ _ _ (by kernel_rfl)] at h
  have h3 : laidMet Tryd.prog _ W := h.tail.tail.tail
  exact wd_of_met h3

end Go.Proofs.YtnkebgkocpeonaaDoor
