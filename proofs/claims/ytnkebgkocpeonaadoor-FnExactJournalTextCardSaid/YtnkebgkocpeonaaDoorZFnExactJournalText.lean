/-
  Joined out of the texts DTd, DTe, DX5, DX6, DX7, DX4, DX8, DRowD, DDkA, DTf, DTg, DTh, DXD, DTp, DTq, DOp2, DOp3, DTr, DLd: what each holds is told at its head.
-/
import Derived.Test.YtnkebgkocpeonaaDoorDTb
import Derived.Test.YtnkebgkocpeonaaDoorSfd
import Derived.Lib.CutLaws
import Derived.Test.YtnkebgkocpeonaaDoorDeskN
import Derived.Test.YtnkebgkocpeonaaDoorDX3
import Derived.Laws.IdiomStrings
import Derived.Test.YtnkebgkocpeonaaDoorDDraw
import Derived.Test.YtnkebgkocpeonaaDoorDDo2
import Derived.Test.YtnkebgkocpeonaaDoorADraw
import Derived.Test.YtnkebgkocpeonaaDoorDWa
import Derived.Deep.RegionWith
import Derived.Deep.AppendLies
import Derived.Test.YtnkebgkocpeonaaDoorDTc
import Derived.Test.YtnkebgkocpeonaaDoorDOp
import Derived.Test.YtnkebgkocpeonaaDoorRows
import Derived.ProofKit
import Derived.OpenShut
import Derived.OpenVars
import Derived.LaidMore
import Derived.Stop.Joined
import Derived.Stop.LaidErr

/-
  Cutting a text at a byte, a number's text read, the kind of deed that has a word: impl's own.
-/
namespace Go.Proofs.YtnkebgkocpeonaaDoor
open Go.RowKit

/-- As long as a text may be that the library's numbers are read of. -/
def L48 : Nat := 281474976710656
theorem gr_below {w w' : World} (h : Below w.heap.size w w') : w.grownBy w' none := ⟨h.os, h.tape, h.output, h.size, fun k hk _ => h.block k hk⟩

theorem index1_any (l : List UInt8) (c : UInt8) (w : World) :
    Calls Tryd.prog 61 #[.string (bs l), .string ⟨#[c]⟩] w fun e w' => e = .returned (.int .i64 (Lib.indexB (bs l) ⟨#[c]⟩)) ∧ w' = w := by
  have h := Any.stringslite_Index_one Tryd.lays219 (bs l) c w
  rw [← Lib.index_one] at h
  exact h

def CutD (l : List UInt8) (c : UInt8) : Value := .tuple #[.string (bs (Lib.cut l [c]).1), .string (bs (Lib.cut l [c]).2.1), .bool (Lib.cut l [c]).2.2]
set_option maxHeartbeats 1600000 in
theorem cutlite_any (l : List UInt8) (c : UInt8) (w : World) (hl : l.length ≤ L48) :
    Calls Tryd.prog 53 #[.string (bs l), .string ⟨#[c]⟩] w fun e w' => e = .returned (CutD l c) ∧ w.grownBy w' none := by
  have ci := index1_any l c
  have hz := bs_size l
  unfold L48 at hl
  unfold CutD
  rcases Lib.indexB_cases (bs l) ⟨#[c]⟩ with h | ⟨i, h, hi⟩
  · obtain ⟨h1, h2, h3⟩ := Lib.cutB_miss (bs l) ⟨#[c]⟩ h
    change bs (Lib.cut l [c]).1 = _ at h1
    change bs (Lib.cut l [c]).2.1 = _ at h2
    change (Lib.cut l [c]).2.2 = _ at h3
    rw [h1, h2, h3]
    rw [h] at ci
    clear h h1 h2 h3
    go_enter Tryd.func53, Tryd.ntmps53
    go_wp2_with (first | (go_at_call 61; refine (ci _).mono ?_; rintro e w' ⟨rfl, rfl⟩))
    exact bodyPost_ret (results_tmp3 rfl _ _ _) rfl ⟨rfl, grownBy_refl _ _⟩
  · obtain ⟨h1, h2, h3⟩ := Lib.cutB_hit (bs l) ⟨#[c]⟩ i h
    change bs (Lib.cut l [c]).1 = _ at h1
    change bs (Lib.cut l [c]).2.1 = _ at h2
    change (Lib.cut l [c]).2.2 = _ at h3
    rw [h1, h2, h3]
    rw [h] at ci
    clear h h1 h2 h3
    change i + 1 ≤ (bs l).size at hi
    have ge : (i : Int) ≥ 0 := by omega
    have w1 : wrap64 ((i : Int) + 1) = (i : Int) + 1 := by unfold wrap64; omega
    have le1 : ((i : Int) ≤ ((bs l).size : Int)) := by omega
    have le2 : ((i : Int) + 1 ≤ ((bs l).size : Int)) := by omega
    have le3 : (0 : Int) ≤ (i : Int) + 1 := by omega
    have le0 : (0 : Int) ≤ (i : Int) := by omega
    clear hz hi
    generalize bs l = s at *
    go_enter Tryd.func53, Tryd.ntmps53
    go_wp2_with (first | (go_at_call 61; refine (ci _).mono ?_; rintro e w' ⟨rfl, rfl⟩))
    have mixed : Tryd.prog.follows Departure.mixedOrders = true := by kernel_rfl
    go_region_o
    all_goals go_wp2
    all_goals refine bodyPost_ret (results_tmp3 rfl _ _ _) rfl ?_
    all_goals first | exact ⟨rfl, grownBy_refl _ _⟩ | exact ⟨rfl, grownBy_drew (grownBy_refl _ _)⟩

theorem cut_any (l : List UInt8) (c : UInt8) (w : World) (hl : l.length ≤ L48) :
    Calls Tryd.prog 36 #[.string (bs l), .string ⟨#[c]⟩] w fun e w' => e = .returned (CutD l c) ∧ w.grownBy w' none := by
  have cc := fun w => cutlite_any l c w hl
  unfold CutD at cc ⊢
  go_enter Tryd.func36, Tryd.ntmps36
  go_wp2_with (first | (go_at_call 53; refine (cc _).mono ?_; rintro e w' ⟨rfl, hg⟩))
  exact bodyPost_ret (results_tmp3 rfl _ _ _) rfl ⟨rfl, hg⟩

/-- What the library hands back with an error lies as some value behind an interface. -/
def ErAt (w : World) : Prop := (∃ tp p, w.cell? ⟨3, 0, none⟩ = some (.iface tp p)) ∧ ∃ tp p, w.cell? ⟨4, 0, none⟩ = some (.iface tp p)
theorem ErAt.grown {w w' : World} (h : ErAt w) (hg : w.grownBy w' none) : ErAt w' := by
  obtain ⟨⟨a, b, h1⟩, ⟨c, d, h2⟩⟩ := h
  exact ⟨⟨a, b, (World.cell?_of_block (w := w) (hg.block _ (World.block_lt_of_cell? w _ h1) (by simp))).trans h1⟩, ⟨c, d, (World.cell?_of_block (w := w) (hg.block _ (World.block_lt_of_cell? w _ h2) (by simp))).trans h2⟩⟩

theorem atoi_ok (l : List UInt8) (hl : l.length ≤ L48) (v : Int) (h : Lib.atoiAll l = .ok v) (w : World) :
    Calls Tryd.prog 54 #[.string (bs l)] w fun e w' => e = .returned (.tuple #[.int .i64 v, .nilIface]) ∧ w.grownBy w' none := by
  have hz := bs_size l
  unfold L48 at hl
  refine Calls.mono (Any.strconv_Atoi_ok Tryd.laysC172 (bs l) (by omega) v h w) fun e w' hh => ⟨hh.1, ?_⟩
  rcases hh.2 with rfl | ⟨t, rfl⟩
  · exact grownBy_refl _ _
  · exact gr_below (Lib.bytesWorld_below _ _ _)
theorem atoi_no (l : List UInt8) (hl : l.length ≤ L48) (h : ∀ v, Lib.atoiAll l ≠ .ok v) (w : World) (hE : ErAt w) :
    Calls Tryd.prog 54 #[.string (bs l)] w fun e w' => (∃ (n : Int) (N : Nat), e = .returned (.tuple #[.int .i64 n, .iface (Tryd.laysC172_ren.t 168) (.pointer (some ⟨N, 0, none⟩))])) ∧ w.grownBy w' none := by
  have hz := bs_size l
  unfold L48 at hl
  obtain ⟨⟨a, b, h1⟩, ⟨c, d, h2⟩⟩ := hE
  cases e : Lib.atoiAll l with
  | ok v => exact absurd e (h v)
  | range =>
    refine Calls.mono (Any.strconv_Atoi_range Tryd.laysC172 (bs l) (by omega) e _ w h2 (.inr ⟨_, _, rfl⟩)) fun e w' hh => ?_
    obtain ⟨N, he, _, _, hb⟩ := hh
    exact ⟨⟨_, N, he⟩, gr_below hb⟩
  | _ =>
    refine Calls.mono (Any.strconv_Atoi_syntax Tryd.laysC172 (bs l) (by omega) e _ w h1 (.inr ⟨_, _, rfl⟩)) fun e w' hh => ?_
    obtain ⟨N, he, _, _, hb⟩ := hh
    exact ⟨⟨_, N, he⟩, gr_below hb⟩
theorem itoa2_any (k : Nat) (h : k < 100) (w : World) :
    Calls Tryd.prog 30 #[.int .i64 (k : Int)] w fun e w' => e = .returned (.string (bs (decL k))) ∧ w' = w := by
  have hh := Any.strconv_Itoa_small Tryd.lays171 k h w
  have he : Lib.decDigits k = decL k := by
    rw [← itoa_dec h]; unfold Lib.itoa; rw [if_neg (by omega), Int.toNat_natCast]
  rw [he] at hh
  exact hh

end Go.Proofs.YtnkebgkocpeonaaDoor

/-
  The kind of deed that has a word; a number's text read.
-/
namespace Go.Proofs.YtnkebgkocpeonaaDoor
open Go.RowKit

theorem toL_bs (l : List UInt8) : (bs l).toList = l := by rw [ByteArray.toList_eq]; rfl
theorem bs_ne {l m : List UInt8} (h : m ≠ l) : (m == (bs l).toList) = false := by rw [toL_bs]; exact beq_false_of_ne h
theorem kind_at {l : List UInt8} {k : Nat} (hk : k < 7) (hall : ∀ j, j < k → wordsL.getD j [] ≠ l) (h : wordsL.getD k [] = l) : Ending.returned (.int .i64 (k : Int)) = .returned (.int .i64 (kindI l)) := by rw [kindI_at hall hk h]
theorem bs_inj {l m : List UInt8} (h : bs l = bs m) : l = m := by have := congrArg bl h; rwa [bl_bs, bl_bs] at this
theorem word_at {k : Nat} (hk : k < 7) : ∀ w, (Instr.index 51 (.agg #[.string ⟨#[99, 104, 97, 105, 110]⟩, .string ⟨#[115, 97, 121]⟩, .string ⟨#[110, 111, 116]⟩, .string ⟨#[116, 105, 109, 101, 115]⟩, .string ⟨#[105, 102]⟩, .string ⟨#[98, 97, 115, 105, 99]⟩, .string ⟨#[98, 97, 99, 107]⟩]) (.int .i64 (k : Int))).run Tryd.prog w = .ok (.string (bs (wordsL.getD k []))) w := by
  intro w
  rcases (show k = 0 ∨ k = 1 ∨ k = 2 ∨ k = 3 ∨ k = 4 ∨ k = 5 ∨ k = 6 by omega) with rfl | rfl | rfl | rfl | rfl | rfl | rfl
  all_goals kernel_rfl
def KdRel (l : List UInt8) (w : World) (i : Value) (wr : World) : Prop := ∃ k : Nat, k ≤ 7 ∧ i = .int .i64 k ∧ (∀ j, j < k → wordsL.getD j [] ≠ l) ∧ w = wr
set_option maxRecDepth 8000 in
set_option maxHeartbeats 4000000 in
theorem kind_any (l : List UInt8) (w : World) (hT : WdAt w) :
    Calls Tryd.prog 37 #[.string (bs l)] w fun e w' => e = .returned (.int .i64 (kindI l)) ∧ w = w' := by
  obtain ⟨c0, c1, c2, c3, c4, c5, c6⟩ := hT.facts
  go_enter Tryd.func37, Tryd.ntmps37
  go_wp2
  clear c0 c1 c2 c3 c4 c5 c6 hT
  go_loopw [6] (fun i wr => KdRel l w i wr) (fun i _ => 7 - (intOf i).toNat)
  case atStart => exact ⟨0, by omega, rfl, fun j hj => absurd hj (by omega), rfl⟩
  case round =>
    obtain ⟨k, hk, rfl, hall, rfl⟩ := hrel
    by_cases h7 : k = 7
    · subst h7
      go_wp2
      go_ret
      exact ⟨by rw [kindI_no hall]; rfl, rfl⟩
    · have hlt : (k : Int) < 7 := by omega
      have hi := word_at (k := k) (by omega)
      by_cases hl : wordsL.getD k [] = l
      · have HZ := Lib.hid (kind_at (by omega) hall hl)
        rw [hl] at hi
        clear hall hl h7
        go_wp2
        go_ret
        exact ⟨Eq.trans rfl HZ.out, rfl⟩
      · have hm : ∀ j, j < k + 1 → wordsL.getD j [] ≠ l := fun j hj => by
          by_cases e : j = k
          · rw [e]; exact hl
          · exact hall j (by omega)
        have hn := bs_ne hl
        rw [← toL_bs (wordsL.getD k [])] at hn
        have HM := Lib.hid hm
        clear hall hl hm h7
        generalize bs (wordsL.getD k []) = T at *
        go_wp2
        go_roundw
        case rel => exact ⟨k + 1, by omega, by go_num, HM.out, rfl⟩
        case measure => simp [intOf]; omega

/-- A number's text read. -/
def NumC (l : List UInt8) (w : World) : Prop := Calls Tryd.prog 38 #[.string (bs l)] w fun e w' => e = .returned (.int .i64 (numI l)) ∧ w.grownBy w' none
set_option maxHeartbeats 1600000 in
theorem numin_no (l : List UInt8) (hl : l.length ≤ L48) (h : ∀ v, Lib.atoiAll l ≠ .ok v) (w : World) (hE : ErAt w) : NumC l w := by
  have ca := atoi_no l hl h w hE
  have hx : numI l = -1 := by
    unfold numI
    cases e : Lib.atoiAll l with
    | ok v => exact absurd e (h v)
    | range => rfl
    | _ => rfl
  unfold NumC
  rw [hx]
  clear hx hE h
  go_enter Tryd.func38, Tryd.ntmps38
  go_wp2_with (first | (go_at_call 54; refine ca.mono ?_; rintro e w' ⟨⟨n, N, rfl⟩, hg⟩))
  go_ret
  exact ⟨rfl, hg⟩
set_option maxHeartbeats 1600000 in
theorem numin_ok (l : List UInt8) (hl : l.length ≤ L48) (v : Int) (h : Lib.atoiAll l = .ok v) (w : World) : NumC l w := by
  have ca := atoi_ok l hl v h w
  have hx : numI l = if 0 ≤ v ∧ v ≤ 99 ∧ Lib.itoa v = l then v else -1 := by unfold numI; rw [h]
  unfold NumC
  rw [hx]
  clear hx h
  by_cases h0 : 0 ≤ v
  · by_cases h9 : v ≤ 99
    · obtain ⟨k, rfl⟩ := Int.eq_ofNat_of_zero_le h0
      have ci := itoa2_any k (by omega)
      rw [itoa_dec (by omega)]
      have n0 : ¬ ((k : Int) < 0) := by omega
      have n9 : ¬ (99 < (k : Int)) := by omega
      by_cases he : decL k = l
      · rw [if_pos ⟨h0, h9, he⟩]
        subst he
        go_enter Tryd.func38, Tryd.ntmps38
        go_wp2_with (first | (go_at_call 54; refine ca.mono ?_; rintro e w' ⟨rfl, hg⟩) | (go_at_call 30; refine (ci _).mono ?_; rintro e w' ⟨rfl, rfl⟩))
        go_ret
        exact ⟨rfl, hg⟩
      · rw [if_neg fun hh => he hh.2.2]
        have hn := bs_ne he
        rw [← toL_bs (decL k)] at hn
        go_enter Tryd.func38, Tryd.ntmps38
        go_wp2_with (first | (go_at_call 54; refine ca.mono ?_; rintro e w' ⟨rfl, hg⟩) | (go_at_call 30; refine (ci _).mono ?_; rintro e w' ⟨rfl, rfl⟩))
        go_ret
        exact ⟨rfl, hg⟩
    · rw [if_neg fun hh => h9 hh.2.1]
      have n0 : ¬ (v < 0) := by omega
      have n9 : 99 < v := by omega
      go_enter Tryd.func38, Tryd.ntmps38
      go_wp2_with (first | (go_at_call 54; refine ca.mono ?_; rintro e w' ⟨rfl, hg⟩))
      all_goals go_ret
      all_goals exact ⟨rfl, hg⟩
  · rw [if_neg fun hh => h0 hh.1]
    have n0 : v < 0 := by omega
    go_enter Tryd.func38, Tryd.ntmps38
    go_wp2_with (first | (go_at_call 54; refine ca.mono ?_; rintro e w' ⟨rfl, hg⟩))
    all_goals go_ret
    all_goals exact ⟨rfl, hg⟩
theorem num_any (l : List UInt8) (hl : l.length ≤ L48) (w : World) (hE : ErAt w) : NumC l w := by
  by_cases h : ∃ v, Lib.atoiAll l = .ok v
  · obtain ⟨v, h⟩ := h; exact numin_ok l hl v h w
  · exact numin_no l hl (fun v e => h ⟨v, e⟩) w hE

end Go.Proofs.YtnkebgkocpeonaaDoor

/-
  The laws' markText: the text of a number behind an m.
-/
namespace Go.Proofs.YtnkebgkocpeonaaDoor
open Go.RowKit

def mtx (k : Nat) : List UInt8 := 109 :: decL k
def MtRel (k : Nat) (w : World) (kv ov : Value) (wr : World) : Prop := ∃ (j : Nat) (o : List UInt8), j ≤ k ∧ kv = .int .i64 j ∧ ov = .string (bs o) ∧ (0 < j → decL k = decL j ++ o) ∧ (j = 0 → decL k = o) ∧ o.length ≤ 30 ∧ w.grownBy wr none

end Go.Proofs.YtnkebgkocpeonaaDoor

/-
  A row of pairs in the call's own memory, marked.
-/
namespace Go.Proofs.YtnkebgkocpeonaaDoor
open Go.RowKit

/-- The pairs that the laws write into a row, from the mark k on. -/
def mkP (k : Nat) (i : Nat) : Ld := (((k + 2 * i : Nat) : Int), mtx (k + 2 * i + 1))
def mkRow (k n : Nat) : List Ld := (List.range n).map (mkP k)
theorem mkRow_len (k n : Nat) : (mkRow k n).length = n := by simp [mkRow]
theorem mkRow_at (k n i : Nat) (h : i < n) : (mkRow k n).getD i nilLd = mkP k i := by simp [mkRow, List.getD_eq_getElem?_getD, h]
/-- The row while it is marked: the first i are. -/
def MkCur (cur : Array Value) (off k n i : Nat) : Prop :=
  (∀ j, j < i → cur[off + j * 2]? = some (.int .i64 (mkP k j).1) ∧ cur[off + j * 2 + 1]? = some (.string (bs (mkP k j).2))) ∧ ∀ j, i ≤ j → j < n → ∃ u v, cur[off + j * 2]? = some u ∧ cur[off + j * 2 + 1]? = some v
theorem MkCur.next {cur : Array Value} {off k n i : Nat} (h : MkCur cur off k n i) (hi : i < n) : MkCur ((cur.setIfInBounds (off + i * 2) (.int .i64 (mkP k i).1)).setIfInBounds (off + i * 2 + 1) (.string (bs (mkP k i).2))) off k n (i + 1) := by
  obtain ⟨u, v, hu, hv⟩ := h.2 i (Nat.le_refl _) hi
  have su := (Array.getElem?_eq_some_iff.1 hu).1
  have sv := (Array.getElem?_eq_some_iff.1 hv).1
  refine ⟨fun j hj => ?_, fun j hj hn => ?_⟩
  · by_cases e : j = i
    · subst e
      refine ⟨?_, ?_⟩
      · rw [Array.getElem?_setIfInBounds_ne (by omega), Array.getElem?_setIfInBounds_self_of_lt su]
      · rw [Array.getElem?_setIfInBounds_self_of_lt (by simpa using sv)]
    · have := h.1 j (by omega)
      refine ⟨?_, ?_⟩
      · rw [Array.getElem?_setIfInBounds_ne (by omega), Array.getElem?_setIfInBounds_ne (by omega)]; exact this.1
      · rw [Array.getElem?_setIfInBounds_ne (by omega), Array.getElem?_setIfInBounds_ne (by omega)]; exact this.2
  · obtain ⟨x, y, h1, h2⟩ := h.2 j (by omega) hn
    refine ⟨x, y, ?_, ?_⟩
    · rw [Array.getElem?_setIfInBounds_ne (by omega), Array.getElem?_setIfInBounds_ne (by omega)]; exact h1
    · rw [Array.getElem?_setIfInBounds_ne (by omega), Array.getElem?_setIfInBounds_ne (by omega)]; exact h2

theorem grown_any {a b : World} {row : Option Nat} (h : a.grownBy b none) : a.grownBy b row := ⟨h.os, h.tape, h.output, h.size, fun k hk _ => h.block k hk (by simp)⟩

end Go.Proofs.YtnkebgkocpeonaaDoor

/-
  Marked rows of pairs read again; whole desks marked and read again.
-/
namespace Go.Proofs.YtnkebgkocpeonaaDoor
open Go.RowKit

def HlRelD (k n : Nat) (w : World) (kv iv : Value) (wr : World) : Prop := ∃ i : Nat, i ≤ n ∧ kv = .int .i64 ((k + 2 * i : Nat) : Int) ∧ iv = .int .i64 i ∧ w.grownBy wr none

end Go.Proofs.YtnkebgkocpeonaaDoor

/-
  The exact law of DeskNew: a desk without anything of before.
-/
namespace Go.Proofs.YtnkebgkocpeonaaDoor
open Go.RowKit

end Go.Proofs.YtnkebgkocpeonaaDoor

/-
  Deeds counted and copied; desks with rows marked and read again.
-/
namespace Go.Proofs.YtnkebgkocpeonaaDoor
open Go.RowKit

set_option maxHeartbeats 1000000 in
theorem szDeed_any (n k left : Int) (s : ByteArray) (w : World) (hl : 0 ≤ left ∧ left ≤ 1048576) (hs : s.size ≤ maxLen) :
    Calls Tryd.prog 21 #[.agg #[.int .i64 n, .int .i64 k, .string s], .int .i64 left] w fun e w' => e = .returned (.int .i64 (if (s.size : Int) ≤ left then left - s.size else -1)) ∧ w.grownBy w' none := by
  have hg := World.grownBy_alloc w (.cells #[.int .i64 n, .int .i64 k, .string s] 38) none
  unfold maxLen at hs
  have hw : IntKind.i64.wrap (left - (s.size : Int)) = left - (s.size : Int) := IntWalk.i64_in _ (by omega)
  have hw2 : wrap64 (left - (s.size : Int)) = left - (s.size : Int) := by unfold wrap64; omega
  by_cases h : (s.size : Int) ≤ left
  · rw [if_pos h]
    go_enter Tryd.func21, Tryd.ntmps21
    go_wp2
    go_ret
    exact ⟨rfl, hg⟩
  · rw [if_neg h]
    go_enter Tryd.func21, Tryd.ntmps21
    go_wp2
    go_ret
    exact ⟨rfl, hg⟩

set_option maxHeartbeats 1000000 in
theorem toDeed_any (n k : Int) (s : ByteArray) (w : World) :
    Calls Tryd.prog 22 #[.agg #[.int .i64 n, .int .i64 k, .string s]] w fun e w' => e = .returned (.agg #[.int .i64 n, .int .i64 k, .string s]) ∧ w.grownBy w' none := by
  go_enter Tryd.func22, Tryd.ntmps22
  go_wp2
  exact bodyPost_ret (v := .agg #[.int .i64 n, .int .i64 k, .string s]) (resDd rfl _ rfl ((CellsAt.second w _ _ _).grown (World.grownBy_alloc _ _ none))) rfl ⟨rfl, made3 _ _ _ _⟩

/-- What is left of a row that was marked: its pairs; nothing else changed but its own block. -/
def MarkedD (a : Option Addr) (k n : Nat) (w w' : World) : Prop := LdsAt w' a (mkRow k n) ∧ ∃ row : Option Nat, (∀ g, row = some g → 0 < n ∧ ∃ x, a = some x ∧ x.block = g) ∧ w.grownBy w' row

end Go.Proofs.YtnkebgkocpeonaaDoor

/-
  Rows of deeds: what lies in them; rows that a call made.
-/
namespace Go.Proofs.YtnkebgkocpeonaaDoor
open Go.RowKit

def nilDd : Dd := (0, 0, [])
/-- The cells of a row of deeds. -/
def ddC : List Dd → List Value
  | [] => []
  | x :: l => .int .i64 x.1 :: .int .i64 x.2.1 :: .string (bs x.2.2) :: ddC l
theorem ddC_len : ∀ l : List Dd, (ddC l).length = l.length * 3
  | [] => rfl
  | x :: l => by show (ddC l).length + 1 + 1 + 1 = (l.length + 1) * 3; rw [ddC_len l]; omega
theorem ddC_app : ∀ l m : List Dd, ddC (l ++ m) = ddC l ++ ddC m
  | [], m => rfl
  | x :: l, m => by show _ :: _ :: _ :: ddC (l ++ m) = _; rw [ddC_app l m]; rfl
theorem ddC_at : ∀ (l : List Dd) (i : Nat), i < l.length → (ddC l)[i * 3]? = some (.int .i64 (l.getD i nilDd).1) ∧ (ddC l)[i * 3 + 1]? = some (.int .i64 (l.getD i nilDd).2.1) ∧ (ddC l)[i * 3 + 2]? = some (.string (bs (l.getD i nilDd).2.2))
  | [], i, h => absurd h (by simp)
  | x :: l, 0, _ => ⟨rfl, rfl, rfl⟩
  | x :: l, i + 1, h => by
    have := ddC_at l i (by simpa using h)
    rw [show (i + 1) * 3 = i * 3 + 1 + 1 + 1 by omega]
    exact this
theorem ddC_one : ∀ (l : List Dd), ∀ u ∈ ddC l, u.oneCell' = true
  | [], u, h => absurd h (by simp [ddC])
  | x :: l, u, h => by
    rcases List.mem_cons.1 h with rfl | h
    · rfl
    · rcases List.mem_cons.1 h with rfl | h
      · rfl
      · rcases List.mem_cons.1 h with rfl | h
        · rfl
        · exact ddC_one l u h
theorem ddC_get {l : List Dd} {j : Nat} {u : Value} (h : (ddC l)[j]? = some u) : ∃ i, i < l.length ∧ ((j = i * 3 ∧ u = .int .i64 (l.getD i nilDd).1) ∨ (j = i * 3 + 1 ∧ u = .int .i64 (l.getD i nilDd).2.1) ∨ (j = i * 3 + 2 ∧ u = .string (bs (l.getD i nilDd).2.2))) := by
  have hj := (List.getElem?_eq_some_iff.1 h).1
  rw [ddC_len] at hj
  have hi : j / 3 < l.length := by omega
  have hc := ddC_at l (j / 3) hi
  refine ⟨j / 3, hi, ?_⟩
  have hm : j % 3 = 0 ∨ j % 3 = 1 ∨ j % 3 = 2 := by omega
  rcases hm with e | e | e
  · have ej : j = j / 3 * 3 := by omega
    rw [ej] at h
    have := h.symm.trans hc.1
    exact .inl ⟨ej, by simpa using this⟩
  · have ej : j = j / 3 * 3 + 1 := by omega
    rw [ej] at h
    have := h.symm.trans hc.2.1
    exact .inr (.inl ⟨ej, by simpa using this⟩)
  · have ej : j = j / 3 * 3 + 2 := by omega
    rw [ej] at h
    have := h.symm.trans hc.2.2
    exact .inr (.inr ⟨ej, by simpa using this⟩)

/-- A row of deeds as it can be read. -/
def DdsAt (w : World) (a : Option Addr) (xs : List Dd) : Prop :=
  xs.length ≤ maxLen ∧ (xs = [] ∨ ∃ b off, a = some ⟨b, off, none⟩ ∧ b < w.heap.size ∧ ∀ i, i < xs.length → w.cell? ⟨b, off + i * 3, none⟩ = some (.int .i64 (xs.getD i nilDd).1) ∧ w.cell? ⟨b, off + i * 3 + 1, none⟩ = some (.int .i64 (xs.getD i nilDd).2.1) ∧ w.cell? ⟨b, off + i * 3 + 2, none⟩ = some (.string (bs (xs.getD i nilDd).2.2)))
theorem DdsAt.kept {w w' : World} {a : Option Addr} {xs : List Dd} {row : Option Nat} (h : DdsAt w a xs) (hg : w.grownBy w' row) (hne : ∀ x, a = some x → some x.block ≠ row) : DdsAt w' a xs := by
  refine ⟨h.1, ?_⟩
  rcases h.2 with h | ⟨b, off, ha, hb, hc⟩
  · exact .inl h
  · exact .inr ⟨b, off, ha, Nat.lt_of_lt_of_le hb hg.size, fun i hi => ⟨(World.cell?_of_block (w := w) (a := ⟨b, off + i * 3, none⟩) (hg.block b hb (hne _ ha))).trans (hc i hi).1, (World.cell?_of_block (w := w) (a := ⟨b, off + i * 3 + 1, none⟩) (hg.block b hb (hne _ ha))).trans (hc i hi).2.1, (World.cell?_of_block (w := w) (a := ⟨b, off + i * 3 + 2, none⟩) (hg.block b hb (hne _ ha))).trans (hc i hi).2.2⟩⟩
theorem DdsAt.grown {w w' : World} {a : Option Addr} {xs : List Dd} (h : DdsAt w a xs) (hg : w.grownBy w' none) : DdsAt w' a xs := h.kept hg (by simp)
theorem DdsAt.nil (w : World) (a : Option Addr) : DdsAt w a [] := ⟨by simp, .inl rfl⟩
theorem DdsAt.take {w : World} {a : Option Addr} {xs : List Dd} (h : DdsAt w a xs) (n : Nat) : DdsAt w a (xs.take n) := by
  refine ⟨Nat.le_trans (by rw [List.length_take]; omega) h.1, ?_⟩
  rcases h.2 with h | ⟨b, off, ha, hb, hc⟩
  · exact .inl (by rw [h, List.take_nil])
  · refine .inr ⟨b, off, ha, hb, fun i hi => ?_⟩
    rw [List.length_take] at hi
    have e : (xs.take n).getD i nilDd = xs.getD i nilDd := by
      rw [List.getD_eq_getElem?_getD, List.getD_eq_getElem?_getD, List.getElem?_take, if_pos (by omega)]
    rw [e]
    exact hc i (by omega)
theorem DdsAt.drop {w : World} {b off : Nat} {xs : List Dd} (h : DdsAt w (some ⟨b, off, none⟩) xs) (n : Nat) : DdsAt w (some ⟨b, off + n * 3, none⟩) (xs.drop n) := by
  refine ⟨Nat.le_trans (by rw [List.length_drop]; omega) h.1, ?_⟩
  rcases h.2 with h | ⟨b', off', ha, hb, hc⟩
  · exact .inl (by rw [h, List.drop_nil])
  · cases ha
    refine .inr ⟨b, off + n * 3, rfl, hb, fun i hi => ?_⟩
    rw [List.length_drop] at hi
    have e : (xs.drop n).getD i nilDd = xs.getD (n + i) nilDd := by
      rw [List.getD_eq_getElem?_getD, List.getD_eq_getElem?_getD, List.getElem?_drop]
    have k := hc (n + i) (by omega)
    rw [show off + (n + i) * 3 = off + n * 3 + i * 3 by omega] at k
    rw [e]
    exact k

/-- A row of deeds that the call owns, from its block's first cell on. -/
def Own3 (w : World) (base : Nat) (a : Option Addr) (cap : Nat) (xs : List Dd) : Prop :=
  w.ownsRow base 24 3 (.slice a xs.length cap) xs.length (ddC xs)
theorem own3_shape {w : World} {base n : Nat} {v : Value} {zs : List Dd} (h : w.ownsRow base 24 3 v n (ddC zs)) : ∃ a cap, v = .slice a zs.length cap ∧ n = zs.length ∧ Own3 w base a cap zs := by
  have hl := h.1
  rw [ddC_len] at hl
  obtain rfl : n = zs.length := by omega
  rcases h.2 with ⟨rfl, h0⟩ | ⟨g, cap, cur, rfl, h1⟩
  · exact ⟨none, 0, by rw [h0], rfl, by unfold Own3; rw [h0]; rw [h0] at h; exact h⟩
  · exact ⟨some ⟨g, 0, none⟩, cap, rfl, rfl, h⟩
theorem Own3.nil (w : World) (base : Nat) : Own3 w base none 0 [] := World.ownsRow_nil _ _ _ _
theorem Own3.made (w : World) : Own3 (w.alloc (.cells #[] 24)) w.heap.size (some ⟨w.heap.size, 0, none⟩) 0 [] := World.ownsRow_made w #[] 0 (Nat.le_refl _) (Nat.zero_le _) rfl
theorem Own3.kept {w w' : World} {base : Nat} {a : Option Addr} {cap : Nat} {zs : List Dd} (h : Own3 w base a cap zs) (hg : w.grownBy w' none) : Own3 w' base a cap zs :=
  World.ownsRow.kept h hg (by cases (Value.slice a zs.length cap).ownBlock <;> simp)
theorem Own3.past {w w' : World} {base b : Nat} {a : Option Addr} {cap : Nat} {zs : List Dd} (h : Own3 w base a cap zs) (hg : w.grownBy w' (some b)) (hb : b < base) : Own3 w' base a cap zs :=
  World.ownsRow.kept h hg (.inr fun e => by have := World.ownsRow.lt h _ e; omega)
theorem Own3.bare {w : World} {base : Nat} {a : Option Addr} {cap : Nat} {zs : List Dd} (h : Own3 w base a cap zs) : a = none → cap = 0 := by
  intro e
  subst e
  rcases h.2 with ⟨h0, _⟩ | ⟨g, c, cur, he, _⟩
  · simp only [Value.slice.injEq] at h0; exact h0.2.2
  · simp at he
theorem Own3.room {w : World} {base : Nat} {a : Option Addr} {cap : Nat} {zs : List Dd} (h : Own3 w base a cap zs) : zs.length ≤ cap ∧ cap ≤ maxLen := by
  rcases h.2 with ⟨h0, h1⟩ | ⟨g, c, cur, he, _, _, hn, hc, _⟩
  · simp only [Value.slice.injEq] at h0
    rw [h1, h0.2.2]; exact ⟨Nat.le_refl _, Nat.zero_le _⟩
  · simp only [Value.slice.injEq, true_and] at he
    rw [he.2]; exact ⟨hn, hc⟩
theorem Own3.mono {w : World} {base base' : Nat} {a : Option Addr} {cap : Nat} {zs : List Dd} (h : Own3 w base a cap zs) (hb : base' ≤ base) : Own3 w base' a cap zs := by
  refine ⟨h.1, ?_⟩
  rcases h.2 with h | ⟨g, c, cur, h1, h2, h3⟩
  · exact .inl h
  · exact .inr ⟨g, c, cur, h1, Nat.le_trans hb h2, h3⟩
theorem Own3.curs {w : World} {base : Nat} {a : Option Addr} {cap : Nat} {zs : List Dd} (h : Own3 w base a cap zs) : zs = [] ∨ ∃ (g : Nat) (cur : Array Value), a = some ⟨g, 0, none⟩ ∧ base ≤ g ∧ w.heap[g]? = some (.cells cur 24 (0, 0)) ∧ ∀ i, i < zs.length → cur[i * 3]? = some (.int .i64 (zs.getD i nilDd).1) ∧ cur[i * 3 + 1]? = some (.int .i64 (zs.getD i nilDd).2.1) ∧ cur[i * 3 + 2]? = some (.string (bs (zs.getD i nilDd).2.2)) := by
  rcases h.2 with ⟨_, h0⟩ | ⟨g, c, cur, he, hb, hg, hnc, hcm, hcs, htake⟩
  · exact .inl (List.length_eq_zero_iff.1 h0)
  · simp only [Value.slice.injEq, true_and] at he
    obtain ⟨rfl, rfl⟩ := he
    refine .inr ⟨g, cur, rfl, hb, hg, fun i hi => ?_⟩
    have k := ddC_at zs i hi
    rw [← htake, List.getElem?_take, if_pos (by omega), List.getElem?_take, if_pos (by omega), List.getElem?_take, if_pos (by omega)] at k
    simpa using k
theorem Own3.at {w : World} {base : Nat} {a : Option Addr} {cap : Nat} {zs : List Dd} (h : Own3 w base a cap zs) : DdsAt w a zs := by
  refine ⟨Nat.le_trans h.room.1 h.room.2, ?_⟩
  rcases h.curs with h | ⟨g, cur, ha, hb, hg, hc⟩
  · exact .inl h
  · refine .inr ⟨g, 0, ha, (Array.getElem?_eq_some_iff.1 hg).1, fun i hi => ?_⟩
    rw [cell_of_row w g _ cur _ (0, 0) hg, cell_of_row w g _ cur _ (0, 0) hg, cell_of_row w g _ cur _ (0, 0) hg, Nat.zero_add]
    exact hc i hi

theorem infoDd : (Tryd.prog.info? 24).map (fun i => (i.zero, i.size, i.bytes)) = some (some (.agg #[.int .i64 0, .int .i64 0, .string ⟨#[]⟩]), 3, 32) := by kernel_rfl

def DdsPost (xs : List Dd) (w : World) (e : Ending) (w' : World) : Prop :=
  ∃ a cap, e = .returned (.slice a xs.length cap) ∧ Own3 w' w.heap.size a cap xs ∧ w.grownBy w' none
theorem grow_own3 {a b c : World} {base : Nat} {v : Value} {n : Nat} {xs : List Value} {e : TypeId} (h : a.grownBy b none) (ho : b.ownsRow base e 3 v n xs) (hb : a.heap.size ≤ base) (k : b.grownBy c v.ownBlock) : a.grownBy c none :=
  ⟨k.os.trans h.os, k.tape.trans h.tape, k.output.trans h.output, Nat.le_trans h.size k.size, fun i hi _ => by
    refine (k.block i (Nat.lt_of_lt_of_le hi h.size) fun e => ?_).trans (h.block i hi (by simp))
    have := World.ownsRow.lt ho i e.symm
    omega⟩

end Go.Proofs.YtnkebgkocpeonaaDoor

/-
  Ahead of the draw of a desk: what lies where between the deeds.
-/
namespace Go.Proofs.YtnkebgkocpeonaaDoor
open Go.RowKit
theorem doR_len {d : Dk} {D : Dd} (h : (doR d D).2 = true) : (doR d D).1.2.length ≤ d.2.length + 1 := by
  unfold doR at h ⊢
  split at h
  · rename_i hd
    rw [if_pos hd]
    cases hq : doD d D with
    | none => rw [hq] at h; cases h
    | some e =>
      show e.2.length ≤ d.2.length + 1
      rcases doD_of hq with ⟨_, p, _, rfl⟩ | ⟨_, y, _, rfl⟩
      · show d.2.dropLast.length ≤ _
        rw [List.length_dropLast]; omega
      · show (capP (d.2 ++ [d.1])).length ≤ _
        unfold capP
        rw [List.length_drop, List.length_append, List.length_singleton]; omega
  · cases h
theorem grown_none {a b : World} {row : Option Nat} (h : a.grownBy b none) : a.grownBy b row := ⟨h.os, h.tape, h.output, h.size, fun k hk _ => h.block k hk (by simp)⟩

theorem rd_put {wd w' : World} {r P b : Nat} (hr : Rd wd r P) (hg : wd.grownBy w' (some b)) (hb : r < b) : Rd w' r P := hr.kept fun k hk => hg.block k (by have := hr.lt; omega) (by simp; omega)
theorem grown_put {w wd w' : World} {r b : Nat} (h : w.grownBy wd (some r)) (hg : wd.grownBy w' (some b)) (hb : w.heap.size ≤ b) : w.grownBy w' (some r) :=
  ⟨hg.os.trans h.os, hg.tape.trans h.tape, hg.output.trans h.output, Nat.le_trans h.size hg.size, fun k hk hn => (hg.block k (Nat.lt_of_lt_of_le hk h.size) (by simp; omega)).trans (h.block k hk hn)⟩
/-- What is told of the draw of a deed. -/
def DeedC : Prop := ∀ (w : World) (r P : Nat), Rd w r P → P ≤ 60000 → Calls Tryd.prog 27 #[.pointer (some ⟨r, 0, none⟩)] w fun e w' => ∃ D : Dd, e = .returned (.agg #[.int .i64 D.1, .int .i64 D.2.1, .string (bs D.2.2)]) ∧ D.2.2.length ≤ 100 ∧ Rd w' r (P + 100) ∧ w.grownBy w' (some r)

end Go.Proofs.YtnkebgkocpeonaaDoor

/-
  A deed's text read: impl's ReadDeed.
-/
namespace Go.Proofs.YtnkebgkocpeonaaDoor
open Go.RowKit

theorem resDdB {fn : Func} {p u : Tmp} (h : fn.results = #[.cell p 24, .tmp u]) (tmps : Array Value) {w : World} {B : Nat} {x y z b : Value} (hp : tmps.getD p undef = .pointer (some ⟨B, 0, none⟩)) (hu : tmps.getD u undef = b) (hB : CellsAt w B #[x, y, z] 24) :
    (results fn tmps).run Tryd.prog w = .ok (.tuple #[.agg #[x, y, z], b]) w := by
  rw [results_cell_tmp h, hp, hu]
  have := run_loadVar_row w B 24 24 #[x, y, z] (0, 0) _ hB Tryd.underlying24 rfl sizeDd
  simp only [asAddr, Sem.run_pure, Result.andThen_ok, this]
/-- What is answered where a text is read. -/
def rdV (l : List UInt8) : Value := match rdD l with | some a => .tuple #[ddV a, .bool true] | none => .tuple #[ddV nilDd, .bool false]
def RdDPost (l : List UInt8) (w : World) (e : Ending) (w' : World) : Prop := e = .returned (rdV l) ∧ w.grownBy w' none
theorem rdV_some {l : List UInt8} {a : Dd} (h : rdD l = some a) : rdV l = .tuple #[ddV a, .bool true] := by unfold rdV; rw [h]
theorem rdV_none {l : List UInt8} (h : rdD l = none) : rdV l = .tuple #[ddV nilDd, .bool false] := by unfold rdV; rw [h]

theorem ErAt.past {w w' : World} {b : Nat} (h : ErAt w) (hg : w.grownBy w' (some b)) (hs : 3 ≠ b) (hr : 4 ≠ b) : ErAt w' := by
  obtain ⟨⟨a, b, h1⟩, ⟨c, d, h2⟩⟩ := h
  exact ⟨⟨a, b, (World.cell?_of_block (w := w) (hg.block _ (World.block_lt_of_cell? w _ h1) (by simpa using hs))).trans h1⟩, ⟨c, d, (World.cell?_of_block (w := w) (hg.block _ (World.block_lt_of_cell? w _ h2) (by simpa using hr))).trans h2⟩⟩
theorem WdAt.past {w w' : World} {b : Nat} (h : WdAt w) (hg : w.grownBy w' (some b)) (hb : 0 ≠ b) : WdAt w' :=
  ⟨Nat.lt_of_lt_of_le h.1 hg.size, fun i hi => (World.cell?_of_block (w := w) (hg.block _ h.1 (by simpa using hb))).trans (h.2 i hi)⟩
theorem ErAt.lt {w : World} (h : ErAt w) : 3 < w.heap.size ∧ 4 < w.heap.size := by
  obtain ⟨⟨a, b, h1⟩, ⟨c, d, h2⟩⟩ := h
  exact ⟨World.block_lt_of_cell? w _ h1, World.block_lt_of_cell? w _ h2⟩

/-- What lies where while a text is read: the answer's box, the deed's box. -/
def RdS (w W : World) (b : Nat) (u v x : Value) : Prop := CellsAt W w.heap.size #[.int .i64 0, .int .i64 0, .string ⟨#[]⟩] 24 ∧ CellsAt W b #[u, v, x] 24 ∧ WdAt W ∧ ErAt W ∧ w.grownBy W none ∧ w.heap.size < b ∧ WdAt w ∧ ErAt w
theorem RdS.new {w w1 : World} (hT : WdAt w) (hE : ErAt w) (hg : (w.alloc (.cells #[.int .i64 0, .int .i64 0, .string ⟨#[]⟩] 24)).grownBy w1 none) (u v x : Value) : RdS w (w1.alloc (.cells #[u, v, x] 24)) w1.heap.size u v x :=
  have g := grownBy_trans (grownBy_trans (World.grownBy_alloc _ _ none) hg) (World.grownBy_alloc w1 (.cells #[u, v, x] 24) none)
  have h1 := (CellsAt.new w #[.int .i64 0, .int .i64 0, .string ⟨#[]⟩] 24).grown hg
  ⟨h1.grown (World.grownBy_alloc _ _ none), CellsAt.new _ _ _, hT.grown g, hE.grown g, g, h1.lt, hT, hE⟩
theorem RdS.grown {w W W' : World} {b : Nat} {u v x : Value} (h : RdS w W b u v x) (g : W.grownBy W' none) : RdS w W' b u v x :=
  ⟨h.1.grown g, h.2.1.grown g, h.2.2.1.grown g, h.2.2.2.1.grown g, grownBy_trans h.2.2.2.2.1 g, h.2.2.2.2.2⟩
theorem RdS.set {w W : World} {b : Nat} {u v x : Value} (h : RdS w W b u v x) (y z : Value) : RdS w ((W.setCell ⟨b, 1, none⟩ y).setCell ⟨b, 2, none⟩ z) b u y z := by
  obtain ⟨h1, h2, h3, h4, h5, h6, h7, h8⟩ := h
  have l1 := h7.1
  have l2 := h8.lt
  have g1 := grownBy_set W b 1 y
  have g2 := grownBy_set (W.setCell ⟨b, 1, none⟩ y) b 2 z
  exact ⟨(h1.kept g1 (by simp; omega)).kept g2 (by simp; omega), (h2.set 1 y).set 2 z, (h3.past g1 (by omega)).past g2 (by omega), (h4.past g1 (by omega) (by omega)).past g2 (by omega) (by omega), grownBy_put (grownBy_put h5 (by omega) 1 y) (by omega) 2 z, h6, h7, h8⟩
theorem RdS.facts {w W : World} {b : Nat} {u v x : Value} (h : RdS w W b u v x) : ((W.cell? ⟨b, 0, none⟩ = some u ∧ W.cell? ⟨b, 1, none⟩ = some v ∧ W.cell? ⟨b, 2, none⟩ = some x) ∧ W.frozen? ⟨b, 0, none⟩ = false ∧ W.frozen? ⟨b, 1, none⟩ = false ∧ W.frozen? ⟨b, 2, none⟩ = false) ∧ (W.cell? ⟨w.heap.size, 0, none⟩ = some (.int .i64 0) ∧ W.cell? ⟨w.heap.size, 1, none⟩ = some (.int .i64 0) ∧ W.cell? ⟨w.heap.size, 2, none⟩ = some (.string ⟨#[]⟩)) ∧ W.frozen? ⟨w.heap.size, 0, none⟩ = false ∧ W.frozen? ⟨w.heap.size, 1, none⟩ = false ∧ W.frozen? ⟨w.heap.size, 2, none⟩ = false := ⟨set_facts h.2.1, set_facts h.1⟩
theorem RdS.fin {w W : World} {b : Nat} {u v x : Value} (h : RdS w W b u v x) (p q r : Value) : CellsAt (((W.setCell ⟨w.heap.size, 0, none⟩ p).setCell ⟨w.heap.size, 1, none⟩ q).setCell ⟨w.heap.size, 2, none⟩ r) w.heap.size #[p, q, r] 24 ∧ w.grownBy (((W.setCell ⟨w.heap.size, 0, none⟩ p).setCell ⟨w.heap.size, 1, none⟩ q).setCell ⟨w.heap.size, 2, none⟩ r) none :=
  ⟨h.1.put3 _ _ _, grownBy_put (grownBy_put (grownBy_put h.2.2.2.2.1 (Nat.le_refl _) 0 p) (Nat.le_refl _) 1 q) (Nat.le_refl _) 2 r⟩

set_option maxRecDepth 8000 in
set_option maxHeartbeats 4000000 in
theorem ird_nil (w : World) (hT : WdAt w) (hE : ErAt w) :
    Calls Tryd.prog 13 #[.string ⟨#[]⟩] w (RdDPost [] w) := by
  have cc := cut_any [] 32
  have ek : kindI (Lib.cut [] [32]).1 = -1 := by decide +kernel
  have hw := rdV_none (wrote_no (s := []) (.inl rfl))
  unfold RdDPost
  rw [hw]
  unfold CutD at cc
  unfold ddV nilDd
  have HT := Lib.hid hT
  have HE := Lib.hid hE
  clear hT hw hE
  go_enter Tryd.func13, Tryd.ntmps13
  go_wp2_with (first | (go_at_call 36; refine (cc _ (by decide)).mono ?_; rintro e w1 ⟨rfl, hg⟩; have hT1 := HT.out.grown (grownBy_trans (World.grownBy_alloc _ _ none) hg); have S0 := Lib.hid (RdS.new HT.out HE.out hg (.int .i64 (-1)) (.int .i64 0) (.string (bs (Lib.cut [] [32]).2.1))); obtain ⟨⟨⟨x0, x1, x2⟩, y0, y1, y2⟩, ⟨z0, z1, z2⟩, v0, v1, v2⟩ := S0.out.facts; clear hg) | (go_at_call 37; refine (kind_any _ _ hT1).mono ?_; rw [ek]; rintro e w2 ⟨rfl, rfl⟩))
  have E := S0.out.fin (.int .i64 0) (.int .i64 0) (.string ⟨#[]⟩)
  exact bodyPost_ret (resDdB rfl _ rfl rfl E.1) rfl ⟨rfl, E.2⟩

set_option maxRecDepth 8000 in
set_option maxHeartbeats 4000000 in
/-- Another word than a chain's. -/
theorem ird_word (l : List UInt8) (K : Int) (T B : List UInt8) (f : Bool) (w : World) (hT : WdAt w) (hE : ErAt w) (h0 : l ≠ []) (ht : (Lib.cut l [32]) = (T, B, f)) (hk : kindI T = K) (hK : K ≠ 0) (hl : l.length ≤ L48) :
    Calls Tryd.prog 13 #[.string (bs l)] w (RdDPost l w) := by
  have cc := cut_any l 32
  have hw : wroteA l = (K, 0, B) := by unfold wroteA; rw [ht, hk]; exact if_neg hK
  have he := empty_bs h0
  have hK0 : (K == 0) = false := beq_false_of_ne hK
  unfold CutD at cc
  rw [ht] at cc
  unfold RdDPost
  have HT := Lib.hid hT
  have HE := Lib.hid hE
  have HL := Lib.hid hl
  have HK := Lib.hid hk
  have ci := fun w hT => itx_any (K, 0, B) w hT
  unfold TxPost ddV at ci
  clear hT hE hl hk hK ht
  by_cases hx : txD (K, 0, B) = l
  · have hr := rdV_some (wrote_yes h0 (by rw [hw]; exact hx))
    rw [hw] at hr
    rw [hr]
    rw [hx] at ci
    unfold ddV
    clear hr hw hx h0
    go_enter Tryd.func13, Tryd.ntmps13
    go_wp2_with (first | (go_at_call 36; refine (cc _ HL.out).mono ?_; rintro e w1 ⟨rfl, hg⟩; have hT1 := HT.out.grown (grownBy_trans (World.grownBy_alloc _ _ none) hg); have S0 := Lib.hid (RdS.new HT.out HE.out hg (.int .i64 K) (.int .i64 0) (.string (bs B))); obtain ⟨⟨⟨x0, x1, x2⟩, y0, y1, y2⟩, ⟨z0, z1, z2⟩, v0, v1, v2⟩ := S0.out.facts; clear hg) | (go_at_call 37; refine (kind_any _ _ hT1).mono ?_; rw [HK.out]; rintro e w2 ⟨rfl, rfl⟩) | (go_at_call 10; refine (ci _ S0.out.2.2.1).mono ?_; rintro e w2 ⟨rfl, hg⟩; have S1 := Lib.hid (S0.out.grown hg); obtain ⟨⟨⟨p0, p1, p2⟩, q0, q1, q2⟩, ⟨r0, r1, r2⟩, s0, s1, s2⟩ := S1.out.facts; clear hg))
    have E := S1.out.fin (.int .i64 K) (.int .i64 0) (.string (bs B))
    exact bodyPost_ret (resDdB rfl _ rfl rfl E.1) rfl ⟨rfl, E.2⟩
  · have hr := rdV_none (wrote_no (s := l) (.inr (by rw [hw]; exact hx)))
    rw [hr]
    have hne := bs_ne hx
    rw [← toL_bs (txD (K, 0, B))] at hne
    generalize txD (K, 0, B) = X at *
    unfold ddV nilDd
    clear hr hw hx h0
    go_enter Tryd.func13, Tryd.ntmps13
    go_wp2_with (first | (go_at_call 36; refine (cc _ HL.out).mono ?_; rintro e w1 ⟨rfl, hg⟩; have hT1 := HT.out.grown (grownBy_trans (World.grownBy_alloc _ _ none) hg); have S0 := Lib.hid (RdS.new HT.out HE.out hg (.int .i64 K) (.int .i64 0) (.string (bs B))); obtain ⟨⟨⟨x0, x1, x2⟩, y0, y1, y2⟩, ⟨z0, z1, z2⟩, v0, v1, v2⟩ := S0.out.facts; clear hg) | (go_at_call 37; refine (kind_any _ _ hT1).mono ?_; rw [HK.out]; rintro e w2 ⟨rfl, rfl⟩) | (go_at_call 10; refine (ci _ S0.out.2.2.1).mono ?_; rintro e w2 ⟨rfl, hg⟩; have S1 := Lib.hid (S0.out.grown hg); obtain ⟨⟨⟨p0, p1, p2⟩, q0, q1, q2⟩, ⟨r0, r1, r2⟩, s0, s1, s2⟩ := S1.out.facts; clear hg))
    have E := S1.out.fin (.int .i64 0) (.int .i64 0) (.string ⟨#[]⟩)
    exact bodyPost_ret (resDdB rfl _ rfl rfl E.1) rfl ⟨rfl, E.2⟩

end Go.Proofs.YtnkebgkocpeonaaDoor

/-
  A deed's text read: impl's ReadDeed where the word is a chain's; and all.
-/
namespace Go.Proofs.YtnkebgkocpeonaaDoor
open Go.RowKit

set_option maxRecDepth 8000 in
set_option maxHeartbeats 4000000 in
theorem ird_chain (l : List UInt8) (T B : List UInt8) (f : Bool) (w : World) (hT : WdAt w) (hE : ErAt w) (h0 : l ≠ []) (ht : (Lib.cut l [32]) = (T, B, f)) (hk : kindI T = 0) (hl : l.length ≤ L48) :
    Calls Tryd.prog 13 #[.string (bs l)] w (RdDPost l w) := by
  have cc := cut_any l 32
  have hw : wroteA l = (0, numI B, []) := by unfold wroteA; rw [ht, hk]; exact if_pos rfl
  have he := empty_bs h0
  have hB : B.length ≤ L48 := by have := (cut_len l 32).2; rw [ht] at this; exact Nat.le_trans this hl
  have cn := fun w hE => num_any B hB w hE
  unfold NumC at cn
  unfold CutD at cc
  rw [ht] at cc
  unfold RdDPost
  have HT := Lib.hid hT
  have HE := Lib.hid hE
  have HL := Lib.hid hl
  have HK := Lib.hid hk
  have ci := fun w hT => itx_any (0, numI B, []) w hT
  unfold TxPost ddV at ci
  rw [show bs ([] : List UInt8) = ⟨#[]⟩ from rfl] at ci
  clear hT hE hl hk ht hB
  by_cases hx : txD (0, numI B, []) = l
  · have hr := rdV_some (wrote_yes h0 (by rw [hw]; exact hx))
    rw [hw] at hr
    rw [hr]
    rw [hx] at ci
    unfold ddV
    clear hr hw hx h0
    generalize numI B = V at *
    go_enter Tryd.func13, Tryd.ntmps13
    go_wp2_with (first | (go_at_call 36; refine (cc _ HL.out).mono ?_; rintro e w1 ⟨rfl, hg⟩; have hT1 := HT.out.grown (grownBy_trans (World.grownBy_alloc _ _ none) hg); have S0 := Lib.hid (RdS.new HT.out HE.out hg (.int .i64 0) (.int .i64 0) (.string (bs B))); obtain ⟨⟨⟨x0, x1, x2⟩, y0, y1, y2⟩, ⟨z0, z1, z2⟩, v0, v1, v2⟩ := S0.out.facts; clear hg) | (go_at_call 37; refine (kind_any _ _ hT1).mono ?_; rw [HK.out]; rintro e w2 ⟨rfl, rfl⟩) | (go_at_call 38; refine (cn _ S0.out.2.2.2.1).mono ?_; rintro e w2 ⟨rfl, hg⟩; have S1 := Lib.hid (S0.out.grown hg); obtain ⟨⟨⟨p0, p1, p2⟩, q0, q1, q2⟩, ⟨r0, r1, r2⟩, s0, s1, s2⟩ := S1.out.facts; have S2 := Lib.hid (S1.out.set (.int .i64 V) (.string ⟨#[]⟩)); obtain ⟨⟨⟨a0, a1, a2⟩, b0, b1, b2⟩, ⟨c0, c1, c2⟩, d0, d1, d2⟩ := S2.out.facts; clear hg) | (go_at_call 10; refine (ci _ S2.out.2.2.1).mono ?_; rintro e w3 ⟨rfl, hg⟩; have S3 := Lib.hid (S2.out.grown hg); obtain ⟨⟨⟨e0, e1, e2⟩, f0, f1, f2⟩, ⟨g0, g1, g2⟩, i0, i1, i2⟩ := S3.out.facts; clear hg))
    have E := S3.out.fin (.int .i64 0) (.int .i64 V) (.string ⟨#[]⟩)
    exact bodyPost_ret (resDdB rfl _ rfl rfl E.1) rfl ⟨rfl, E.2⟩
  · have hr := rdV_none (wrote_no (s := l) (.inr (by rw [hw]; exact hx)))
    rw [hr]
    have hne := bs_ne hx
    rw [← toL_bs (txD (0, numI B, []))] at hne
    generalize txD (0, numI B, []) = X at *
    unfold ddV nilDd
    clear hr hw hx h0
    generalize numI B = V at *
    go_enter Tryd.func13, Tryd.ntmps13
    go_wp2_with (first | (go_at_call 36; refine (cc _ HL.out).mono ?_; rintro e w1 ⟨rfl, hg⟩; have hT1 := HT.out.grown (grownBy_trans (World.grownBy_alloc _ _ none) hg); have S0 := Lib.hid (RdS.new HT.out HE.out hg (.int .i64 0) (.int .i64 0) (.string (bs B))); obtain ⟨⟨⟨x0, x1, x2⟩, y0, y1, y2⟩, ⟨z0, z1, z2⟩, v0, v1, v2⟩ := S0.out.facts; clear hg) | (go_at_call 37; refine (kind_any _ _ hT1).mono ?_; rw [HK.out]; rintro e w2 ⟨rfl, rfl⟩) | (go_at_call 38; refine (cn _ S0.out.2.2.2.1).mono ?_; rintro e w2 ⟨rfl, hg⟩; have S1 := Lib.hid (S0.out.grown hg); obtain ⟨⟨⟨p0, p1, p2⟩, q0, q1, q2⟩, ⟨r0, r1, r2⟩, s0, s1, s2⟩ := S1.out.facts; have S2 := Lib.hid (S1.out.set (.int .i64 V) (.string ⟨#[]⟩)); obtain ⟨⟨⟨a0, a1, a2⟩, b0, b1, b2⟩, ⟨c0, c1, c2⟩, d0, d1, d2⟩ := S2.out.facts; clear hg) | (go_at_call 10; refine (ci _ S2.out.2.2.1).mono ?_; rintro e w3 ⟨rfl, hg⟩; have S3 := Lib.hid (S2.out.grown hg); obtain ⟨⟨⟨e0, e1, e2⟩, f0, f1, f2⟩, ⟨g0, g1, g2⟩, i0, i1, i2⟩ := S3.out.facts; clear hg))
    have E := S3.out.fin (.int .i64 0) (.int .i64 0) (.string ⟨#[]⟩)
    exact bodyPost_ret (resDdB rfl _ rfl rfl E.1) rfl ⟨rfl, E.2⟩

theorem ird_any (l : List UInt8) (w : World) (hT : WdAt w) (hE : ErAt w) (hl : l.length ≤ L48) :
    Calls Tryd.prog 13 #[.string (bs l)] w (RdDPost l w) := by
  by_cases h0 : l = []
  · subst h0; exact ird_nil w hT hE
  · by_cases hk : kindI (Lib.cut l [32]).1 = 0
    · exact ird_chain l _ _ _ w hT hE h0 rfl hk hl
    · exact ird_word l _ _ _ _ w hT hE h0 rfl rfl hk hl

end Go.Proofs.YtnkebgkocpeonaaDoor

/-
  The walk of FnDeedText.
-/
namespace Go.Proofs.YtnkebgkocpeonaaDoor
open Go.RowKit

def DtxPost (w : World) (e : Ending) (w' : World) : Prop := ∃ D : Dd, e = .returned (ddV D) ∧ D.2.2.length ≤ 100 ∧ w.grownBy w' none
set_option maxRecDepth 8000 in
set_option maxHeartbeats 1000000 in
theorem DrawDeedText_any (a : Option Addr) (len cap : Nat) (zs : List Int) (w : World) (h : IsRow .u8 w a len cap zs) :
    Calls Tryd.prog 9 #[.slice a len cap] w (DtxPost w) := by
  have g0 := World.grownBy_alloc w (.cells #[.int .i64 0, .int .i64 0, .string ⟨#[]⟩] 24) none
  have hB := CellsAt.new w #[.int .i64 0, .int .i64 0, .string ⟨#[]⟩] 24
  have ha := h.up g0
  have hR : (w.alloc (.cells #[.int .i64 0, .int .i64 0, .string ⟨#[]⟩] 24)).heap.size = w.heap.size + 1 := by show (w.heap.push _).size = _; rw [Array.size_push]
  have HR := Lib.hid hR
  have co := open_draw a len cap zs _ ha
  unfold OpenPost at co
  rw [hR] at co
  have HB := Lib.hid hB
  have G0 := Lib.hid g0
  clear h hB g0 hR ha
  go_enter Tryd.func9, Tryd.ntmps9
  go_wp2_with fail
  refine co.mono ?_
  rintro e w1 ⟨rfl, hr1, hg1⟩
  go_wp2_with fail
  refine (deed_draw _ _ _ hr1 (by omega)).mono ?_
  rintro e w2 ⟨D, rfl, hD, hr2, hg2⟩
  have hgg := grownBy_own hg1 (by rw [HR.out]; exact hg2)
  have HW := Lib.hid (HB.out.grown hgg)
  obtain ⟨⟨z0, z1, z2⟩, f0, f1, f2⟩ := set_facts HW.out
  obtain ⟨K, N, T⟩ := D
  go_wp2_with fail
  exact bodyPost_ret (v := .agg #[.int .i64 K, .int .i64 N, .string (bs T)]) (resDd rfl _ rfl (HW.out.put3 _ _ _)) rfl ⟨(K, N, T), rfl, hD, put3_grown _ (grownBy_trans G0.out hgg) (Nat.le_refl _) _ _ _⟩

theorem tx_len (a : Dd) : (txD a).length ≤ 66 := by
  by_cases h : txD a = []
  · rw [h]; simp
  · have hh := told_of h
    generalize txD a = s at *
    cases hh with
    | chain k h => simp [chainW]
    | say t hf => have := isF_len hf; simp [sayW]; omega
    | times t hf => have := isF_len hf; simp [timesW']; omega
    | ifs t hf => have := isF_len hf; simp [ifW]; omega
    | nots => decide
    | basic => decide
    | back => decide
theorem itx_v (K N : Int) (T : List UInt8) (S : ByteArray) (h : bs (txD (K, N, T)) = S) (w : World) (hT : WdAt w) : Calls Tryd.prog 10 #[.agg #[.int .i64 K, .int .i64 N, .string (bs T)]] w fun e w' => e = .returned (.string S) ∧ w.grownBy w' none := by rw [← h]; exact itx_any (K, N, T) w hT
theorem stx_v (K N : Int) (T : List UInt8) (S : ByteArray) (h : bs (txD (K, N, T)) = S) (w : World) : Calls Tryd.prog 11 #[.agg #[.int .i64 K, .int .i64 N, .string (bs T)]] w fun e w' => e = .returned (.string S) ∧ w.grownBy w' none := by rw [← h]; exact stx_any (K, N, T) w
theorem ird_v (l : List UInt8) (v : Value) (h : rdV l = v) (w : World) (hT : WdAt w) (hE : ErAt w) (hl : l.length ≤ L48) : Calls Tryd.prog 13 #[.string (bs l)] w fun e w' => e = .returned v ∧ w.grownBy w' none := by rw [← h]; exact ird_any l w hT hE hl

set_option maxRecDepth 100000 in
set_option maxHeartbeats 4000000 in
theorem FnDeedText_walk (a0 : Option Addr) (len0 cap0 : Nat) (z0 : List Int) (w : World) (w0 : IsRow .u8 w a0 len0 cap0 z0) (hT : WdAt w ∧ ErAt w) :
    Calls Tryd.prog 3 #[.slice a0 len0 cap0] w fun e w' => e = .returned (.bool true) ∧ Below w.heap.size w w' := by
  by_cases hl : (1048576 : Int) < (len0 : Int)
  · clear w0
    go_enter Tryd.func3, Tryd.ntmps3
    go_wp2_with fail
    go_ret
    exact ⟨rfl, Below.refl _ _⟩
  · go_enter Tryd.func3, Tryd.ntmps3
    go_wp2_with fail
    refine (DrawDeedText_any _ _ _ _ _ w0).mono ?_
    rintro e w1 ⟨⟨K, N, T⟩, rfl, hD, g1⟩
    clear w0 hD
    unfold ddV
    have X0 := Lib.hid (grownBy_trans g1 (World.grownBy_alloc w1 (.cells #[.int .i64 K, .int .i64 N, .string (bs T)] 24) none))
    have XB := Lib.hid (CellsAt.new w1 #[.int .i64 K, .int .i64 N, .string (bs T)] 24)
    have HT := Lib.hid hT
    have TA := Lib.hid (hT.1.grown X0.out)
    obtain ⟨k0, k1, k2⟩ := XB.out.three
    clear hT
    by_cases hs : txD (K, N, T) = []
    · have c1 := itx_v K N T ⟨#[]⟩ (by rw [hs]; rfl)
      have c2 := stx_v K N T ⟨#[]⟩ (by rw [hs]; rfl)
      clear hs
      go_wp2_with (first | (go_at_call 10; refine (c1 _ TA.out).mono ?_; rintro e w2 ⟨rfl, g2⟩; have X1 := Lib.hid (grownBy_trans X0.out g2); obtain ⟨m0, m1, m2⟩ := (XB.out.grown g2).three; clear c1) | (go_at_call 11; refine (c2 _).mono ?_; rintro e w3 ⟨rfl, g3⟩; clear c2) | (go_at_call 12; refine (alive_any _).mono ?_; rintro e w' ⟨rfl, rfl⟩))
      go_ret
      exact ⟨rfl, below_of (grownBy_trans X1.out g3)⟩
    · have he := empty_bs hs
      have hr := rd_tx hs
      have c3 := ird_v (txD (K, N, T)) _ (rdV_some hr)
      have hL : Hid ((txD (K, N, T)).length ≤ L48) := Lib.hid (Nat.le_trans (tx_len _) (by decide))
      have c1 := itx_v K N T _ rfl
      have c2 := stx_v K N T _ rfl
      unfold ddV at c3
      generalize txD (K, N, T) = S at *
      clear hs hr
      go_wp2_with (first | (go_at_call 10; refine (c1 _ TA.out).mono ?_; rintro e w2 ⟨rfl, g2⟩; have X1 := Lib.hid (grownBy_trans X0.out g2); have X1B := Lib.hid (XB.out.grown g2); obtain ⟨m0, m1, m2⟩ := X1B.out.three; clear c1) | (go_at_call 11; refine (c2 _).mono ?_; rintro e w3 ⟨rfl, g3⟩; have X2 := Lib.hid (grownBy_trans X1.out g3); have X2B := Lib.hid (X1B.out.grown g3); clear c2) | (go_at_call 13; refine (c3 _ (HT.out.1.grown X2.out) (HT.out.2.grown X2.out) hL.out).mono ?_; rintro e w4 ⟨rfl, g4⟩; have X3 := Lib.hid (grownBy_trans (grownBy_trans X2.out g4) (World.grownBy_alloc _ (.cells #[.int .i64 K, .int .i64 N, .string (bs T)] 24) none)); obtain ⟨p0, p1, p2⟩ := ((X2B.out.grown g4).grown (World.grownBy_alloc _ (.cells #[.int .i64 K, .int .i64 N, .string (bs T)] 24) none)).three; obtain ⟨q0, q1, q2⟩ := (CellsAt.new w4 #[.int .i64 K, .int .i64 N, .string (bs T)] 24).three; clear c3))
      go_ret
      exact ⟨rfl, below_of X3.out⟩

end Go.Proofs.YtnkebgkocpeonaaDoor

/-
  Rows of deeds counted, copied and compared: the laws' szDeedS, toDeedS, eqDeedS.
-/
namespace Go.Proofs.YtnkebgkocpeonaaDoor
open Go.RowKit

theorem getDd_mem {xs : List Dd} {k : Nat} (h : k < xs.length) : xs.getD k nilDd ∈ xs := by
  rw [List.getD_eq_getElem?_getD, List.getElem?_eq_getElem h]
  exact List.getElem_mem h
/-- What szDeedS answers with: something below 0, or a number, few deeds and short texts. -/
def SzDPost (xs : List Dd) (w : World) (e : Ending) (w' : World) : Prop := ∃ v : Int, e = .returned (.int .i64 v) ∧ (v < 0 ∨ (0 ≤ v ∧ v ≤ 1048576 ∧ xs.length ≤ 1048576 ∧ ∀ x ∈ xs, x.2.2.length ≤ 1048576)) ∧ w.grownBy w' none
def SzDd (xs : List Dd) (w : World) (i left : Value) (wr : World) : Prop := ∃ (k : Nat) (l : Int), k ≤ xs.length ∧ i = .int .i64 k ∧ left = .int .i64 l ∧ 0 ≤ l ∧ l ≤ 1048576 ∧ (∀ j, j < k → (xs.getD j nilDd).2.2.length ≤ 1048576) ∧ w.grownBy wr none

set_option maxRecDepth 8000 in
set_option maxHeartbeats 2000000 in
theorem szDeedS_any (left : Int) (a : Option Addr) (cap : Nat) (xs : List Dd) (w : World) (hl : 0 ≤ left ∧ left ≤ 1048576) (h : DdsAt w a xs) (hz : ∀ x ∈ xs, x.2.2.length ≤ maxLen) :
    Calls Tryd.prog 24 #[.slice a xs.length cap, .int .i64 left] w (SzDPost xs w) := by
  have hm := h.1
  unfold maxLen at hm
  have hw2 : wrap64 (left - (xs.length : Int)) = left - (xs.length : Int) := by unfold wrap64; omega
  have H := Lib.hid h
  have HZ := Lib.hid hz
  clear h hz
  by_cases hle : (xs.length : Int) ≤ left
  · go_enter Tryd.func24, Tryd.ntmps24
    have hp : 0 ≤ left - (xs.length : Int) := by omega
    go_wp2
    go_loopw [1, 5] (fun l i wr => SzDd xs w i l wr) (fun _ i _ => xs.length - (intOf i).toNat)
    case atStart => exact ⟨0, left - xs.length, by omega, rfl, rfl, by omega, by omega, fun j hj => absurd hj (by omega), grownBy_refl _ _⟩
    case round =>
      obtain ⟨k, l, hk, rfl, rfl, hl0, hl1, hsm, hgr⟩ := hrel
      have HS := Lib.hid hsm
      clear hsm
      by_cases hlt : k < xs.length
      · have hx2 := H.out.grown hgr
        rcases hx2.2 with h0 | ⟨bx, ox, rfl, hbx, hcx⟩
        · rw [h0] at hlt; simp at hlt
        obtain ⟨c0, c1, c2⟩ := hcx k hlt
        have hzk : (xs.getD k nilDd).2.2.length ≤ maxLen := HZ.out _ (getDd_mem hlt)
        clear hx2 hcx hbx
        have hq3 : Hid ((xs.getD k nilDd).2.2.length ≤ 1048576 → ∀ j, j < k + 1 → (xs.getD j nilDd).2.2.length ≤ 1048576) := Lib.hid fun h j hj => by
          by_cases e : j = k
          · rw [e]; exact h
          · exact HS.out j (by omega)
        generalize xs.getD k nilDd = q at *
        have cs := fun w => szDeed_any q.1 q.2.1 l (bs q.2.2) w ⟨hl0, hl1⟩ (by rw [bs_size]; exact hzk)
        have Hgr := Lib.hid hgr
        clear hgr
        by_cases hq : ((bs q.2.2).size : Int) ≤ l
        · simp only [if_pos hq] at cs
          have hq0 : 0 ≤ l - ((bs q.2.2).size : Int) := by omega
          have hqq := Lib.hid (hq3.out (by rw [bs_size] at hq; omega))
          clear hq3
          go_wp2_with (first | (go_at_call 21; refine (cs _).mono ?_; rintro e w' ⟨rfl, hg⟩))
          go_roundw
          case rel => exact ⟨k + 1, l - ((bs q.2.2).size : Int), by omega, by go_num, rfl, hq0, by omega, hqq.out, grownBy_trans Hgr.out hg⟩
          case measure => simp [intOf]; omega
        · simp only [if_neg hq] at cs
          clear hq3
          go_wp2_with (first | (go_at_call 21; refine (cs _).mono ?_; rintro e w' ⟨rfl, hg⟩))
          go_ret
          exact ⟨_, rfl, .inl (by decide), grownBy_trans Hgr.out hg⟩
      · obtain rfl : k = xs.length := by omega
        have Hgr := Lib.hid hgr
        clear hgr
        go_wp2
        go_ret
        refine ⟨l, rfl, .inr ⟨hl0, hl1, by omega, fun x hx => ?_⟩, Hgr.out⟩
        obtain ⟨j, hj, rfl⟩ := List.mem_iff_getElem.1 hx
        have := HS.out j hj
        rwa [List.getD_eq_getElem?_getD, List.getElem?_eq_getElem hj] at this
  · go_enter Tryd.func24, Tryd.ntmps24
    go_wp2
    go_ret
    exact ⟨_, rfl, .inl (by omega), grownBy_refl _ _⟩

def CpDd (g : Nat) (xs : List Dd) (w : World) (i : Value) (wr : World) : Prop :=
  ∃ (k : Nat) (vs : List Value), k ≤ xs.length ∧ i = .int .i64 k ∧ wr.ownsRow w.heap.size 24 3 (.slice (some ⟨g, 0, none⟩) xs.length xs.length) xs.length vs ∧ (∀ j, j < k → vs[j * 3]? = some (.int .i64 (xs.getD j nilDd).1) ∧ vs[j * 3 + 1]? = some (.int .i64 (xs.getD j nilDd).2.1) ∧ vs[j * 3 + 2]? = some (.string (bs (xs.getD j nilDd).2.2))) ∧ w.grownBy wr none
theorem own3_copied {g : Nat} {xs : List Dd} {w wr : World} {vs : List Value} (h : wr.ownsRow w.heap.size 24 3 (.slice (some ⟨g, 0, none⟩) xs.length xs.length) xs.length vs) (hx : ∀ j, j < xs.length → vs[j * 3]? = some (.int .i64 (xs.getD j nilDd).1) ∧ vs[j * 3 + 1]? = some (.int .i64 (xs.getD j nilDd).2.1) ∧ vs[j * 3 + 2]? = some (.string (bs (xs.getD j nilDd).2.2))) : Own3 wr w.heap.size (some ⟨g, 0, none⟩) xs.length xs := by
  have e : vs = ddC xs := by
    apply List.ext_getElem?
    intro j
    by_cases hj : j < xs.length * 3
    · have hk : j / 3 < xs.length := by omega
      have k1 := hx _ hk
      have k2 := ddC_at xs _ hk
      have hm : j % 3 = 0 ∨ j % 3 = 1 ∨ j % 3 = 2 := by omega
      rcases hm with q | q | q
      · rw [show j = j / 3 * 3 by omega, k1.1, k2.1]
      · rw [show j = j / 3 * 3 + 1 by omega, k1.2.1, k2.2.1]
      · rw [show j = j / 3 * 3 + 2 by omega, k1.2.2, k2.2.2]
    · rw [List.getElem?_eq_none (by rw [h.1]; omega), List.getElem?_eq_none (by rw [ddC_len]; omega)]
  unfold Own3
  rw [← e]
  exact h
theorem three_set {vs : List Value} {xs : List Dd} {k : Nat} (hl : vs.length = xs.length * 3) (hk : k < xs.length) (hxs : ∀ j, j < k → vs[j * 3]? = some (.int .i64 (xs.getD j nilDd).1) ∧ vs[j * 3 + 1]? = some (.int .i64 (xs.getD j nilDd).2.1) ∧ vs[j * 3 + 2]? = some (.string (bs (xs.getD j nilDd).2.2))) (m n : Int) (t : ByteArray) (hm : m = (xs.getD k nilDd).1) (hn : n = (xs.getD k nilDd).2.1) (ht : t = bs (xs.getD k nilDd).2.2) :
    ∀ j, j < k + 1 → (((vs.set (k * 3) (.int .i64 m)).set (k * 3 + 1) (.int .i64 n)).set (k * 3 + 2) (.string t))[j * 3]? = some (.int .i64 (xs.getD j nilDd).1) ∧ (((vs.set (k * 3) (.int .i64 m)).set (k * 3 + 1) (.int .i64 n)).set (k * 3 + 2) (.string t))[j * 3 + 1]? = some (.int .i64 (xs.getD j nilDd).2.1) ∧ (((vs.set (k * 3) (.int .i64 m)).set (k * 3 + 1) (.int .i64 n)).set (k * 3 + 2) (.string t))[j * 3 + 2]? = some (.string (bs (xs.getD j nilDd).2.2)) := by
  subst hm hn ht
  intro j hj
  by_cases e : j = k
  · subst e
    refine ⟨?_, ?_, ?_⟩
    · rw [List.getElem?_set_ne (by omega), List.getElem?_set_ne (by omega), List.getElem?_set_self (by omega)]
    · rw [List.getElem?_set_ne (by omega), List.getElem?_set_self (by rw [List.length_set]; omega)]
    · rw [List.getElem?_set_self (by rw [List.length_set, List.length_set]; omega)]
  · refine ⟨?_, ?_, ?_⟩
    · rw [List.getElem?_set_ne (by omega), List.getElem?_set_ne (by omega), List.getElem?_set_ne (by omega)]; exact (hxs j (by omega)).1
    · rw [List.getElem?_set_ne (by omega), List.getElem?_set_ne (by omega), List.getElem?_set_ne (by omega)]; exact (hxs j (by omega)).2.1
    · rw [List.getElem?_set_ne (by omega), List.getElem?_set_ne (by omega), List.getElem?_set_ne (by omega)]; exact (hxs j (by omega)).2.2

set_option maxRecDepth 8000 in
set_option maxHeartbeats 2000000 in
theorem toDeedS_any (a : Option Addr) (cap : Nat) (xs : List Dd) (hn : xs.length ≤ 100000000) (w : World) (h : DdsAt w a xs) :
    Calls Tryd.prog 25 #[.slice a xs.length cap] w (DdsPost xs w) := by
  obtain ⟨i0, hi, hz0, hz1, hz2⟩ := info_parts infoDd
  have Hh := Lib.hid h
  clear h
  go_enter Tryd.func25, Tryd.ntmps25
  go_wp2_with (at_make; refine wpList_make_full _ rfl _ _ 32 rfl w.heap.size 24 i0 (.agg #[.int .i64 0, .int .i64 0, .string ⟨#[]⟩]) 3 Tryd.underlying32 hi hz0 hz1 .i64 .i64 _ _ xs.length rfl rfl rfl rfl ?b2 ?b3 (Nat.le_refl _) ?_)
  case b2 => rw [hz2]; omega
  case b3 => unfold maxLen; omega
  intro w0 hown0 hgrow0
  go_wp2
  go_loopw [4] (fun i wr => CpDd w.heap.size xs w i wr) (fun i _ => xs.length - (intOf i).toNat)
  case atStart => exact ⟨0, _, by omega, rfl, hown0, fun j hj => absurd hj (by omega), hgrow0⟩
  case round =>
    obtain ⟨k, vs, hk, rfl, hown, hxs, hgr⟩ := hrel
    by_cases hlt : k < xs.length
    · have hx2 := Hh.out.grown hgr
      rcases hx2.2 with h0 | ⟨bx, ox, rfl, hbx, hcx⟩
      · rw [h0] at hlt; simp at hlt
      obtain ⟨c0, c1, c2⟩ := hcx k hlt
      have ct := fun w => toDeed_any (xs.getD k nilDd).1 (xs.getD k nilDd).2.1 (bs (xs.getD k nilDd).2.2) w
      have hxl := hown.1
      have HO := Lib.hid hown
      have HG := Lib.hid hgr
      have hnw := Lib.hid (three_set hown.1 hlt hxs _ _ _ rfl rfl rfl)
      clear hown hgr hx2 hcx hbx hxs
      generalize (xs.getD k nilDd).1 = n at *
      generalize (xs.getD k nilDd).2.1 = m at *
      generalize bs (xs.getD k nilDd).2.2 = t at *
      go_wp2_with (first | (go_at_call 22; refine (ct _).mono ?_; rintro e w2 ⟨rfl, hg⟩; have ho2 := HO.out.kept hg (by simp [Value.ownBlock]); have hst := Lib.hid (World.ownsRow.stored ho2 (k * 3) (.int .i64 n)); have hsu := Lib.hid (World.ownsRow.stored hst.out.1 (k * 3 + 1) (.int .i64 m)); have hsv := Lib.hid (World.ownsRow.stored hsu.out.1 (k * 3 + 2) (.string t)); have hgg := Lib.hid (grow_own3 (grow_own3 (grow_own3 (grownBy_trans HG.out hg) ho2 (Nat.le_refl _) hst.out.2) hst.out.1 (Nat.le_refl _) hsu.out.2) hsu.out.1 (Nat.le_refl _) hsv.out.2); have f0 := World.ownsRow.frozenAt ho2 (k * 3); have f1 := World.ownsRow.frozenAt ho2 (k * 3 + 1); have f2 := World.ownsRow.frozenAt ho2 (k * 3 + 2); have e0 := World.ownsRow.cellAt ho2 (k * 3) (by omega); have e1 := World.ownsRow.cellAt ho2 (k * 3 + 1) (by omega); have e2 := World.ownsRow.cellAt ho2 (k * 3 + 2) (by omega); rw [List.getElem?_eq_getElem (by omega)] at e0 e1 e2; clear ho2))
      go_roundw
      case rel => exact ⟨k + 1, _, by omega, by go_num, hsv.out.1, hnw.out, hgg.out⟩
      case measure => simp [intOf]; omega
    · obtain rfl : k = xs.length := by omega
      have hs := Lib.hid (own3_copied hown hxs)
      have Hg := Lib.hid hgr
      clear hown hxs hgr
      go_wp2
      go_ret
      exact ⟨_, _, rfl, hs.out, Hg.out⟩

set_option maxHeartbeats 1000000 in
theorem eqDeed_yes (n k : Int) (t : ByteArray) (w : World) :
    Calls Tryd.prog 23 #[.agg #[.int .i64 n, .int .i64 k, .string t], .agg #[.int .i64 n, .int .i64 k, .string t]] w fun e w' => e = .returned (.bool true) ∧ w.grownBy w' none := by
  go_enter Tryd.func23, Tryd.ntmps23
  go_wp2
  go_ret
  exact ⟨rfl, grownBy_trans (World.grownBy_alloc _ _ none) (World.grownBy_alloc _ _ none)⟩

def EqRelD (xs : List Dd) (w : World) (i : Value) (wr : World) : Prop := ∃ k : Nat, k ≤ xs.length ∧ i = .int .i64 k ∧ w.grownBy wr none

set_option maxRecDepth 8000 in
set_option maxHeartbeats 2000000 in
theorem eqDeedS_yes (a b : Option Addr) (ca cb : Nat) (xs : List Dd) (w : World) (hx : DdsAt w a xs) (hy : DdsAt w b xs) :
    Calls Tryd.prog 26 #[.slice a xs.length ca, .slice b xs.length cb] w fun e w' => e = .returned (.bool true) ∧ w.grownBy w' none := by
  have hm := hx.1
  unfold maxLen at hm
  have HX := Lib.hid hx
  have HY := Lib.hid hy
  clear hx hy
  go_enter Tryd.func26, Tryd.ntmps26
  go_wp2
  go_loopw [5] (fun i wr => EqRelD xs w i wr) (fun i _ => xs.length - (intOf i).toNat)
  case atStart => exact ⟨0, by omega, rfl, grownBy_refl _ _⟩
  case round =>
    obtain ⟨k, hk, rfl, hgr⟩ := hrel
    have Hgr := Lib.hid hgr
    clear hgr
    by_cases hlt : k < xs.length
    · rcases (HX.out.grown Hgr.out).2 with h0 | ⟨bx, ox, rfl, _, hcx⟩
      · rw [h0] at hlt; simp at hlt
      rcases (HY.out.grown Hgr.out).2 with h0 | ⟨by', oy, rfl, _, hcy⟩
      · rw [h0] at hlt; simp at hlt
      obtain ⟨x0, x1, x2⟩ := hcx k hlt
      obtain ⟨y0, y1, y2⟩ := hcy k hlt
      clear hcx hcy
      generalize xs.getD k nilDd = q at *
      go_wp2_with fail
      go_region_with (go_at_call 23; refine (eqDeed_yes _ _ _ _).mono ?_; rintro e w' ⟨rfl, hg⟩)
      all_goals go_wp2_with fail
      all_goals go_roundw
      all_goals first | (simp [intOf]; omega) | exact ⟨k + 1, by omega, by go_num, grownBy_trans Hgr.out (drew_grown hg)⟩ | exact ⟨k + 1, by omega, by go_num, grownBy_trans Hgr.out (grownBy_trans (grownBy_drewN (grownBy_refl _ _) _) hg)⟩
    · obtain rfl : k = xs.length := by omega
      go_wp2
      go_ret
      exact ⟨rfl, Hgr.out⟩

end Go.Proofs.YtnkebgkocpeonaaDoor

/-
  Journals as texts: the model's.
-/
namespace Go.Proofs.YtnkebgkocpeonaaDoor
open Go.RowKit

theorem take_dd {xs : List Dd} {k : Nat} (hk : k < xs.length) : xs.take (k + 1) = xs.take k ++ [xs.getD k nilDd] := by
  rw [List.take_add_one, List.getD_eq_getElem?_getD]
  simp [hk]
theorem jB_snoc {l : List Dd} {a : Dd} (h : jB l = true) (ha : txD a ≠ []) : jB (l ++ [a]) = true := by
  unfold jB at *
  rw [List.all_append, h]
  cases e : txD a with
  | nil => exact absurd e ha
  | cons x y => simp [e]
theorem jL_len : ∀ l : List Dd, (jL l).length ≤ 67 * l.length
  | [] => by simp [jL]
  | a :: l => by
    have := jL_len l
    have := tx_len a
    simp only [jL, List.length_append, List.length_cons]
    omega
theorem jT_no {xs : List Dd} {k : Nat} (hk : k < xs.length) (h : txD (xs.getD k nilDd) = []) : jT xs = [] := by
  unfold jT
  rw [jB_no (getDd_mem hk) h]
  rfl
theorem jT_all {xs : List Dd} (h : jB xs = true) : jT xs = jL xs := if_pos h

def JtRel (xs : List Dd) (w : World) (kv ov : Value) (wr : World) : Prop :=
  ∃ k : Nat, k ≤ xs.length ∧ kv = .int .i64 k ∧ ov = .string (bs (jL (xs.take k))) ∧ jB (xs.take k) = true ∧ w.grownBy wr none
def JtPost (xs : List Dd) (w : World) (e : Ending) (w' : World) : Prop := e = .returned (.string (bs (jT xs))) ∧ w.grownBy w' none

set_option maxRecDepth 8000 in
set_option maxHeartbeats 4000000 in
theorem sjt_any (xs : List Dd) (hn : xs.length ≤ 1048576) (a : Option Addr) (cap : Nat) (w : World) (h : DdsAt w a xs) :
    Calls Tryd.prog 18 #[.slice a xs.length cap] w (JtPost xs w) := by
  have H := Lib.hid h
  clear h
  go_enter Tryd.func18, Tryd.ntmps18
  go_wp2
  go_loopw [4, 3] (fun kv ov wr => JtRel xs w kv ov wr) (fun kv _ _ => xs.length - (intOf kv).toNat)
  case atStart => exact ⟨0, by omega, rfl, rfl, rfl, grownBy_refl _ _⟩
  case round =>
    obtain ⟨k, hk, rfl, rfl, hB, hgr⟩ := hrel
    have Hgr := Lib.hid hgr
    have HB := Lib.hid hB
    have hjl := jL_len (xs.take k)
    rw [List.length_take, Nat.min_eq_left hk] at hjl
    clear hgr hB
    by_cases hlt : k < xs.length
    · have hx := H.out.grown Hgr.out
      rcases hx.2 with h0 | ⟨b, o, rfl, hb, hc⟩
      · rw [h0] at hlt; simp at hlt
      have hx2 : Hid (∀ w2, wr.grownBy w2 none → w2.cell? ⟨b, o + k * 3, none⟩ = some (.int .i64 (xs.getD k nilDd).1) ∧ w2.cell? ⟨b, o + k * 3 + 1, none⟩ = some (.int .i64 (xs.getD k nilDd).2.1) ∧ w2.cell? ⟨b, o + k * 3 + 2, none⟩ = some (.string (bs (xs.getD k nilDd).2.2))) := Lib.hid fun w2 g => by
        rcases (hx.grown g).2 with h0 | ⟨b', o', e, _, hc'⟩
        · rw [h0] at hlt; simp at hlt
        · cases e; exact hc' k hlt
      obtain ⟨c0, c1, c2⟩ := hc k hlt
      clear hx hc hb
      have hno := Lib.hid (jT_no hlt)
      have hyes := Lib.hid (take_dd hlt)
      generalize xs.getD k nilDd = q at *
      obtain ⟨q1, q2, q3⟩ := q
      by_cases ht : txD (q1, q2, q3) = []
      · have cs := stx_v q1 q2 q3 ⟨#[]⟩ (by rw [ht]; rfl)
        go_wp2_with (first | (go_at_call 11; refine (cs _).mono ?_; rintro e w2 ⟨rfl, hg⟩))
        go_ret
        exact ⟨by rw [hno.out ht]; rfl, grownBy_trans Hgr.out hg⟩
      · have cs := stx_v q1 q2 q3 (bs (txD (q1, q2, q3))) rfl
        have hne := empty_bs ht
        have htl := tx_len (q1, q2, q3)
        have HT := Lib.hid ht
        generalize hT : txD (q1, q2, q3) = t at *
        have hz1 := bs_size (jL (xs.take k))
        have hz2 := bs_size t
        have n1 : ¬ (9223372036854775807 < (bs (jL (xs.take k))).size + (bs t).size) := by omega
        have n2 : ¬ (9223372036854775807 < (bs (jL (xs.take k))).size + (bs t).size + 1) := by omega
        clear hz1 hz2 ht
        go_wp2_with fail
        refine (cs _).mono ?_
        rintro e w2 ⟨rfl, hg⟩
        obtain ⟨d0, d1, d2⟩ := hx2.out _ hg
        have Hg2 := Lib.hid (grownBy_trans Hgr.out hg)
        clear hg c0 c1 c2
        go_wp2_with (first | (go_at_call 11; refine (cs _).mono ?_; rintro e w3 ⟨rfl, hg3⟩))
        go_roundw
        case rel => exact ⟨k + 1, by omega, by go_num, by rw [hyes.out, jL_snoc, hT, ← bs_app, ← bs_app]; rfl, by rw [hyes.out]; exact jB_snoc HB.out (by rw [hT]; exact HT.out), grownBy_trans Hg2.out hg3⟩
        case measure => simp [intOf]; omega
    · obtain rfl : k = xs.length := by omega
      go_wp2
      go_ret
      have hB := HB.out
      rw [List.take_length] at hB ⊢
      exact ⟨by rw [jT_all hB]; rfl, Hgr.out⟩

end Go.Proofs.YtnkebgkocpeonaaDoor

/-
  Journals as texts: the landed code's, written into a strings.Builder.
-/
namespace Go.Proofs.YtnkebgkocpeonaaDoor
open Go.RowKit

theorem strC_bs (l : List UInt8) : Lib.strCells (bs l) = Lib.byteCells l := rfl
theorem below_gr {w w' : World} (h : w.grownBy w' none) : Below w.heap.size w w' := ⟨h.os, h.tape, h.output, h.size, fun k hk => h.block k hk (by simp)⟩
theorem builder_grown {T e : TypeId} {B b : Nat} {l : List Value} {w w' : World} (h : Lib.IsBuilder T e B b l w) (hg : w.grownBy w' none) : Lib.IsBuilder T e B b l w' := by
  rcases h with h | h
  all_goals
    obtain ⟨hB, v, hb, ho, hne⟩ := h
    have hlt : b < w.heap.size := by
      rcases Nat.lt_or_ge b w.heap.size with h' | h'
      · exact h'
      · simp [Array.getElem?_eq_none h'] at hb
  · exact .inl ⟨hB, v, (hg.block b hlt (by simp)).trans hb, ho.kept hg (by cases v.ownBlock <;> simp), hne⟩
  · exact .inr ⟨hB, v, (hg.block b hlt (by simp)).trans hb, ho.kept hg (by cases v.ownBlock <;> simp), hne⟩

theorem gr_belowB {w a b : World} (h : w.grownBy a none) (k : Below w.heap.size a b) : w.grownBy b none := ⟨k.os.trans h.os, k.tape.trans h.tape, k.output.trans h.output, Nat.le_trans h.size k.size, fun i hi _ => (k.block i hi).trans (h.block i hi (by simp))⟩
def IjRel (xs : List Dd) (w : World) (iv : Value) (wr : World) : Prop :=
  ∃ k : Nat, k ≤ xs.length ∧ iv = .int .i64 k ∧ Lib.IsBuilder (Tryd.lays166_ren.t 72) (Tryd.lays166_ren.t 5) w.heap.size w.heap.size (Lib.byteCells (jL (xs.take k))) wr ∧ jB (xs.take k) = true ∧ w.grownBy wr none

set_option maxRecDepth 8000 in
set_option maxHeartbeats 4000000 in
theorem ijt_any (xs : List Dd) (hn : xs.length ≤ 1048576) (a : Option Addr) (cap : Nat) (w : World) (h : DdsAt w a xs) (hT : WdAt w) :
    Calls Tryd.prog 17 #[.slice a xs.length cap] w (JtPost xs w) := by
  have H := Lib.hid h
  clear h
  have HT := Lib.hid hT
  clear hT
  go_enter Tryd.func17, Tryd.ntmps17
  go_wp2
  go_loopw [9] (fun iv wr => IjRel xs w iv wr) (fun iv _ => xs.length - (intOf iv).toNat)
  case atStart => exact ⟨0, by omega, rfl, Lib.fresh_isBuilder _ _ w, rfl, World.grownBy_alloc _ _ none⟩
  case round =>
    obtain ⟨k, hk, rfl, hI, hB, hgr⟩ := hrel
    have Hgr := Lib.hid hgr
    have HB := Lib.hid hB
    have HI := Lib.hid hI
    have hjl := jL_len (xs.take k)
    rw [List.length_take, Nat.min_eq_left hk] at hjl
    clear hgr hB hI
    by_cases hlt : k < xs.length
    · have hx := H.out.grown Hgr.out
      rcases hx.2 with h0 | ⟨b, o, rfl, hb, hc⟩
      · rw [h0] at hlt; simp at hlt
      obtain ⟨c0, c1, c2⟩ := hc k hlt
      clear hx hc hb
      have hno := Lib.hid (jT_no hlt)
      have hyes := Lib.hid (take_dd hlt)
      generalize xs.getD k nilDd = q at *
      obtain ⟨q1, q2, q3⟩ := q
      have HW : Hid (WdAt (wr.alloc (.cells #[.int .i64 q1, .int .i64 q2, .string (bs q3)] 24))) := Lib.hid (HT.out.grown (grownBy_trans Hgr.out (World.grownBy_alloc _ _ none)))
      have HG := Lib.hid (grownBy_trans Hgr.out (World.grownBy_alloc wr (.cells #[.int .i64 q1, .int .i64 q2, .string (bs q3)] 24) none))
      by_cases ht : txD (q1, q2, q3) = []
      · have cs := itx_v q1 q2 q3 ⟨#[]⟩ (by rw [ht]; rfl)
        go_wp2_with fail
        refine (cs _ HW.out).mono ?_
        rintro e w2 ⟨rfl, hg⟩
        go_wp2_with fail
        go_ret
        exact ⟨by rw [hno.out ht]; rfl, grownBy_trans HG.out hg⟩
      · have cs := itx_v q1 q2 q3 (bs (txD (q1, q2, q3))) rfl
        have hne := empty_bs ht
        have htl := tx_len (q1, q2, q3)
        have HTT := Lib.hid ht
        generalize hTT : txD (q1, q2, q3) = t at *
        have hz2 := bs_size t
        have n1 : ¬ (9223372036854775807 < (bs t).size + 1) := by omega
        have hA := bs_app t [10]
        rw [show bs [10] = ⟨#[10]⟩ from rfl] at hA
        have HL := Lib.hid (show (Lib.byteCells (jL (xs.take k))).length + (bs (t ++ [10])).size ≤ 140737488355328 by rw [Lib.byteCells_length, bs_size]; simp; omega)
        clear hz2 ht
        go_wp2_with fail
        refine (cs _ HW.out).mono ?_
        rintro e w2 ⟨rfl, hg⟩
        have HI2 := Lib.hid (builder_grown (builder_grown HI.out (World.grownBy_alloc _ _ none)) hg)
        have HG2 := Lib.hid (grownBy_trans HG.out hg)
        clear hg
        go_wp2_with fail
        refine (Any.Builder_WriteString Tryd.lays166 Tryd.Builder_Extra_166 w.heap.size w.heap.size _ (bs (t ++ [10])) w2 HI2.out HL.out HG2.out.size).mono ?_
        rintro e w3 ⟨rfl, hb3, hl3⟩
        have HG3 := Lib.hid (gr_belowB HG2.out hl3)
        have HI3 := Lib.hid hb3
        clear hb3 hl3
        go_wp2_with fail
        go_roundw
        case rel => exact ⟨k + 1, by omega, by go_num, .inr (by rw [hyes.out, jL_snoc, hTT, List.append_assoc, Lib.byteCells_append]; exact HI3.out), by rw [hyes.out]; exact jB_snoc HB.out (by rw [hTT]; exact HTT.out), HG3.out⟩
        case measure => simp [intOf]; omega
    · obtain rfl : k = xs.length := by omega
      rw [List.take_length] at HI HB
      go_wp2_with fail
      refine (Any.Builder_String_any Tryd.lays169 Tryd.Builder_Extra_169 w.heap.size w.heap.size (jL xs) wr HI.out Hgr.out.size).mono ?_
      rintro e w2 ⟨rfl, hl2⟩
      have HG2 := Lib.hid (gr_belowB Hgr.out hl2)
      clear hl2
      go_wp2_with fail
      go_ret
      exact ⟨by rw [jT_all HB.out]; rfl, HG2.out⟩

end Go.Proofs.YtnkebgkocpeonaaDoor

/-
  A deed that came in, opened to its cells. No function is named.
-/
namespace Go.Proofs.YtnkebgkocpeonaaDoor
open Go.RowKit Go.ChangeShapes Go.WideShapes Go.Deep Go.Joins

theorem open_deed {H : Type} {enc : TypeId × Value → H} {P : Program} {w : World} {base : Nat} {spare : Nat → Bool} {held : Bool} {r : Reach} {b0 : Nat} {t : TypeId} {f0 f1 f2 : Field}
    (hs : P.underlying t = some (.struct #[f0, f1, f2])) (o0 : f0.offset = 0) (o1 : f1.offset = 1) (o2 : f2.offset = 2) (c0 : P.cellsOf f0.type = 1) (c1 : P.cellsOf f1.type = 1) (c2 : P.cellsOf f2.type = 1) (ct : P.cellsOf t = 3)
    (i0 : P.underlying f0.type = some (.int .i64)) (i1 : P.underlying f1.type = some (.int .i64)) (i2 : P.underlying f2.type = some .string)
    {v : Value} {d : DataW H} {p : List MemPlace} (hv : Value.okWide P w r b0 t v) (h : DataW.Trod enc P w base spare held t v d p) :
    ∃ (n k : Int) (s : ByteArray), v = .agg #[.int .i64 n, .int .i64 k, .string s] ∧ (Lit.int .i64 n).wf = true ∧ s.size ≤ maxLen := by
  obtain ⟨cs, rfl, hc⟩ := okWide_struct hs hv
  obtain ⟨u, x, y, rfl⟩ : ∃ u x y, cs = #[u, x, y] := by
    rw [ct] at hc
    match cs, hc with
    | ⟨[u, x, y]⟩, _ => exact ⟨u, x, y, rfl⟩
  obtain ⟨fuel, hf⟩ := h
  obtain ⟨zs, n, _, _, _, hl, hg⟩ := DataW.trod_struct hs hf
  have q0 := hg 0 f0 rfl
  have q1 := hg 1 f1 rfl
  have q2 := hg 2 f2 rfl
  rw [o0, c0] at q0
  rw [o1, c1] at q1
  rw [o2, c2] at q2
  obtain ⟨z0, z1, z2, rfl⟩ : ∃ z0 z1 z2, zs = [z0, z1, z2] := by
    match zs, hl with
    | [z0, z1, z2], _ => exact ⟨z0, z1, z2, rfl⟩
  obtain ⟨k, e0, _, hk⟩ := DataW.trod_int (x := z0) i0 (by simpa [Value.cells] using q0)
  obtain ⟨j, e1, _, _⟩ := DataW.trod_int (x := z1) i1 (by simpa [Value.cells] using q1)
  obtain ⟨s, e2, _, hs'⟩ := DataW.trod_string (x := z2) i2 (by simpa [Value.cells] using q2)
  simp at e0 e1 e2
  subst e0 e1 e2
  exact ⟨k, j, s, rfl, hk, hs'⟩

end Go.Proofs.YtnkebgkocpeonaaDoor

/-
  A row of deeds that came in, opened to its cells. No function is named.
-/
namespace Go.Proofs.YtnkebgkocpeonaaDoor
open Go.RowKit Go.ChangeShapes Go.WideShapes Go.Deep Go.Joins

section
variable {H : Type} {enc : TypeId × Value → H} {P : Program} {w : World} {base : Nat} {spare : Nat → Bool} {held : Bool}
/-- What a struct of two numbers and a text must be. -/
structure DeedT (P : Program) (t : TypeId) (f0 f1 f2 : Field) : Prop where
  str : P.underlying t = some (.struct #[f0, f1, f2])
  o0 : f0.offset = 0
  o1 : f1.offset = 1
  o2 : f2.offset = 2
  c0 : P.cellsOf f0.type = 1
  c1 : P.cellsOf f1.type = 1
  c2 : P.cellsOf f2.type = 1
  ct : P.cellsOf t = 3
  i0 : P.underlying f0.type = some (.int .i64)
  i1 : P.underlying f1.type = some (.int .i64)
  i2 : P.underlying f2.type = some .string
theorem DeedT.read {t : TypeId} {f0 f1 f2 : Field} (T : DeedT P t f0 f1 f2) {fuel : Nat} {u v y : Value} {x : DataW H × List MemPlace} (h : DataW.trod enc P w base spare held fuel t [u, v, y] = some x) : ∃ (n k : Int) (s : ByteArray), u = .int .i64 n ∧ v = .int .i64 k ∧ y = .string s ∧ s.size ≤ maxLen := by
  obtain ⟨zs, n, _, _, _, hl, hg⟩ := DataW.trod_struct T.str h
  have q0 := hg 0 f0 rfl
  have q1 := hg 1 f1 rfl
  have q2 := hg 2 f2 rfl
  rw [T.o0, T.c0] at q0
  rw [T.o1, T.c1] at q1
  rw [T.o2, T.c2] at q2
  obtain ⟨z0, z1, z2, rfl⟩ : ∃ z0 z1 z2, zs = [z0, z1, z2] := by
    match zs, hl with
    | [z0, z1, z2], _ => exact ⟨z0, z1, z2, rfl⟩
  obtain ⟨k, e0, _, _⟩ := DataW.trod_int (x := z0) T.i0 (by simpa using q0)
  obtain ⟨j, e1, _, _⟩ := DataW.trod_int (x := z1) T.i1 (by simpa using q1)
  obtain ⟨s, e2, _, hs'⟩ := DataW.trod_string (x := z2) T.i2 (by simpa using q2)
  simp at e0 e1 e2
  exact ⟨k, j, s, e0, e1, e2, hs'⟩
theorem dds_of {a : Addr} {len : Nat} (hm : len ≤ maxLen) (h : ∀ i, i < len → ∃ (n k : Int) (s : ByteArray), w.cell? (a.add (i * 3)) = some (.int .i64 n) ∧ w.cell? (a.add (i * 3 + 1)) = some (.int .i64 k) ∧ w.cell? (a.add (i * 3 + 2)) = some (.string s) ∧ s.size ≤ maxLen) :
    ∃ xs : List Dd, xs.length = len ∧ DdsAt w (some a) xs ∧ ∀ x ∈ xs, x.2.2.length ≤ maxLen := by
  by_cases h0 : len = 0
  · subst h0
    exact ⟨[], rfl, DdsAt.nil _ _, by simp⟩
  obtain ⟨b, off, spot⟩ := a
  have hsp : spot = none := by
    obtain ⟨n, k, s, c0, _⟩ := h 0 (by omega)
    simpa [Addr.add] using World.cell?_spot c0
  subst hsp
  have h' : ∀ i, i < len → ∃ (n k : Int) (s : ByteArray), w.cell? ⟨b, off + i * 3, none⟩ = some (.int .i64 n) ∧ w.cell? ⟨b, off + i * 3 + 1, none⟩ = some (.int .i64 k) ∧ w.cell? ⟨b, off + i * 3 + 2, none⟩ = some (.string s) ∧ s.size ≤ maxLen := by
    intro i hi
    obtain ⟨n, k, s, c0, c1, c2, hs⟩ := h i hi
    rw [add_none] at c0 c1 c2
    exact ⟨n, k, s, c0, by rw [Nat.add_assoc]; exact c1, by rw [Nat.add_assoc]; exact c2, hs⟩
  have hch : ∃ f : Nat → Dd, ∀ i, i < len → w.cell? ⟨b, off + i * 3, none⟩ = some (.int .i64 (f i).1) ∧ w.cell? ⟨b, off + i * 3 + 1, none⟩ = some (.int .i64 (f i).2.1) ∧ w.cell? ⟨b, off + i * 3 + 2, none⟩ = some (.string (bs (f i).2.2)) ∧ (f i).2.2.length ≤ maxLen := by
    refine ⟨fun i => if hi : i < len then ((h' i hi).choose, (h' i hi).choose_spec.choose, bl (h' i hi).choose_spec.choose_spec.choose) else nilDd, fun i hi => ?_⟩
    have q := (h' i hi).choose_spec.choose_spec.choose_spec
    simp only [dif_pos hi]
    refine ⟨q.1, q.2.1, q.2.2.1, ?_⟩
    show (bl _).length ≤ maxLen
    rw [← bl_size]; exact q.2.2.2
  obtain ⟨f, hf⟩ := hch
  have hg : ∀ i, i < len → ((List.range len).map f).getD i nilDd = f i := fun i hi => by simp [List.getD_eq_getElem?_getD, hi]
  refine ⟨(List.range len).map f, by simp, ⟨by simpa using hm, .inr ⟨b, off, rfl, ?_, fun i hi => ?_⟩⟩, fun x hx => ?_⟩
  · have := (hf 0 (by omega)).1
    exact World.block_lt_of_cell? w _ this
  · have hi' : i < len := by simpa using hi
    rw [hg i hi']
    exact ⟨(hf i hi').1, (hf i hi').2.1, (hf i hi').2.2.1⟩
  · obtain ⟨i, hi, rfl⟩ := List.mem_map.1 hx
    exact (hf i (List.mem_range.1 hi)).2.2.2
theorem open_deeds {r : Reach} {b0 : Nat} {t e : TypeId} {f0 f1 f2 : Field} (T : DeedT P e f0 f1 f2) (ht : P.underlying t = some (.slice e)) {c : Value} {d : DataW H} {p : List MemPlace} (hv : Value.okWide P w r b0 t c) (h : DataW.Trod enc P w base spare held t c d p) :
    ∃ (a : Option Addr) (cap : Nat) (xs : List Dd), c = .slice a xs.length cap ∧ DdsAt w a xs ∧ (a = none → cap = 0) ∧ ∀ x ∈ xs, x.2.2.length ≤ maxLen := by
  obtain ⟨a0, l0, c0, rfl⟩ := okWide_slice ht hv
  obtain ⟨fuel, hf⟩ := h
  rcases open_slice ht hf with ⟨h0, _⟩ | ⟨a, len, cap, m, n, D, Pl, hcs, _, hl, hm, hmm, _, hi⟩
  · simp [Value.cells] at h0
    exact ⟨none, 0, [], by rw [h0.1, h0.2.1, h0.2.2]; rfl, DdsAt.nil _ _, fun _ => rfl, by simp⟩
  · simp [Value.cells] at hcs
    have hlm : len ≤ m := by rw [hmm]; split <;> omega
    have hc : ∀ i, i < len → ∃ (n k : Int) (s : ByteArray), w.cell? (a.add (i * 3)) = some (.int .i64 n) ∧ w.cell? (a.add (i * 3 + 1)) = some (.int .i64 k) ∧ w.cell? (a.add (i * 3 + 2)) = some (.string s) ∧ s.size ≤ maxLen := by
      intro i hil
      obtain ⟨cs', hcc, hts⟩ := hi i (by omega)
      rw [T.ct] at hcc
      obtain ⟨_, hcl, hat⟩ := World.cells?_some hcc
      obtain ⟨u, v, y, rfl⟩ : ∃ u v y, cs' = [u, v, y] := by
        match cs', hcl with
        | [u, v, y], _ => exact ⟨u, v, y, rfl⟩
      obtain ⟨k, j, s, rfl, rfl, rfl, hs⟩ := T.read hts
      have q0 := hat 0 (by omega)
      have q1 := hat 1 (by omega)
      have q2 := hat 2 (by omega)
      refine ⟨k, j, s, by rw [add_add] at q0; simpa using q0, by rw [add_add] at q1; simpa using q1, by rw [add_add] at q2; simpa using q2, hs⟩
    obtain ⟨xs, rfl, hx, hz⟩ := dds_of (by omega) hc
    exact ⟨some a, cap, xs, by rw [hcs.1, hcs.2.1, hcs.2.2], hx, (by simp), hz⟩
end

end Go.Proofs.YtnkebgkocpeonaaDoor

/-
  The walk of FnExactJournalText.
-/
namespace Go.Proofs.YtnkebgkocpeonaaDoor
open Go.RowKit

set_option maxRecDepth 100000 in
set_option maxHeartbeats 4000000 in
theorem FnExactJournalText_walk (ad0 : Option Addr) (cap0 : Nat) (dl0 : List Dd) (w : World) (l0 : DdsAt w ad0 dl0) (_k0 : ad0 = none → cap0 = 0) (q0 : ∀ x ∈ dl0, x.2.2.length ≤ maxLen) (hT : WdAt w) :
    Calls Tryd.prog 8 #[.slice ad0 dl0.length cap0] w fun e w' => e = .returned (.bool true) ∧ Below w.heap.size w w' := by
  have cz := szDeedS_any 1048576 ad0 cap0 dl0 w (by omega) l0 q0
  have HL := Lib.hid l0
  have HT := Lib.hid hT
  clear l0 q0 hT _k0
  go_enter Tryd.func8, Tryd.ntmps8
  go_wp2_with fail
  refine cz.mono ?_
  rintro e wa ⟨v, rfl, hv, ga⟩
  clear cz
  rcases hv with hv | ⟨hv0, _, hn, _⟩
  · go_wp2_with fail
    go_ret
    exact ⟨rfl, below_of ga⟩
  · have ct := toDeedS_any ad0 cap0 dl0 (by omega)
    have cs := sjt_any dl0 hn
    have ci := ijt_any dl0 hn
    have HN := Lib.hid hn
    unfold JtPost at cs ci
    generalize bs (jT dl0) = S at *
    have Ga := Lib.hid ga
    clear ga hn
    go_wp2_with fail
    refine (ct wa (HL.out.grown Ga.out)).mono ?_
    rintro e wb ⟨a1, c1, rfl, o1, gb⟩
    have Gb := Lib.hid (grownBy_trans Ga.out gb)
    have O1 := Lib.hid o1
    clear gb o1
    go_wp2_with fail
    refine (cs a1 c1 wb O1.out.at).mono ?_
    rintro e wc ⟨rfl, gc⟩
    have Gc := Lib.hid (grownBy_trans Gb.out gc)
    clear gc
    go_wp2_with fail
    refine (ct wc (HL.out.grown Gc.out)).mono ?_
    rintro e wd ⟨a2, c2, rfl, o2, gd⟩
    have Gd := Lib.hid (grownBy_trans Gc.out gd)
    have O2 := Lib.hid o2
    clear gd o2
    go_wp2_with fail
    refine (ci a2 c2 wd O2.out.at (HT.out.grown Gd.out)).mono ?_
    rintro e we ⟨rfl, ge⟩
    have Ge := Lib.hid (grownBy_trans Gd.out ge)
    have O3 := Lib.hid (O2.out.kept ge)
    clear ge
    go_wp2_with fail
    refine (ct we (HL.out.grown Ge.out)).mono ?_
    rintro e wf ⟨a3, c3, rfl, o4, gf⟩
    have Gf := Lib.hid (grownBy_trans Ge.out gf)
    have O4 := Lib.hid o4
    have O5 := Lib.hid (O3.out.kept gf)
    clear gf o4
    go_wp2_with fail
    refine (eqDeedS_yes a2 a3 c2 c3 dl0 wf O5.out.at O4.out.at).mono ?_
    rintro e wg ⟨rfl, gg⟩
    go_wp2_with fail
    go_ret
    exact ⟨rfl, below_of (grownBy_trans Gf.out gg)⟩

end Go.Proofs.YtnkebgkocpeonaaDoor

/-
  From the premise that the listed variables lie as the program's text lays them: the words of deeds, and the library's two errors.
-/
namespace Go.Proofs.YtnkebgkocpeonaaDoor
open Go.ChangeShapes Go.WideShapes Go.ChangeAt Go.RowKit Go.Stop

theorem dword_list : (Rows.laid_loop_example_manyvalues_impl_deedWords : DataW Unit) = .agg (wordsL.map fun l => (DataW.lit (.string l) : DataW Unit)) := by kernel_rfl

theorem dword_cells {W : World} {g t f : Nat} {cs : Array Value} {p : List MemPlace} (hg : Tryd.prog.globalNamed "loop.example/manyvalues/impl.deedWords" = some g) (ht : (Tryd.prog.globals[g]?).map (·.type) = some t) (hv : W.var? Tryd.prog "loop.example/manyvalues/impl.deedWords" = some cs)
    (hd : DataW.trod (fun _ => ()) Tryd.prog W 0 (fun _ => true) false f t cs.toList = some (Rows.laid_loop_example_manyvalues_impl_deedWords, p)) : WdAt W := by
  rw [dword_list] at hd
  obtain rfl := Option.some.inj ((show Tryd.prog.globalNamed "loop.example/manyvalues/impl.deedWords" = some 0 by kernel_rfl).symm.trans hg)
  obtain rfl := Option.some.inj ((show (Tryd.prog.globals[0]?).map (·.type) = some 51 by kernel_rfl).symm.trans ht)
  obtain ⟨xs, m, _, ex, _, hl, hel⟩ := DataW.trod_array Tryd.underlying51 hd
  have hc1 : Tryd.prog.cellsOf 9 = 1 := by kernel_rfl
  have hlen : wordsL.length = 7 := rfl
  have e3 : (xs.map (·.1)) = wordsL.map fun l => (DataW.lit (.string l) : DataW Unit) := (DataW.agg.inj (Prod.mk.inj ex).1).symm
  have hxl : xs.length = 7 := by
    have := congrArg List.length e3
    simpa [hlen] using this
  have hc : ∀ r, r < 7 → W.cell? ⟨0, r, none⟩ = some (.string (bs (wordsL.getD r []))) := by
    intro r hr
    have hE := hel r (by omega)
    rw [hc1, Nat.mul_one, List.getElem?_eq_getElem (by omega)] at hE
    obtain ⟨z, e1, e2, _⟩ := DataW.trod_string Tryd.underlying9 hE
    have e4 : (xs.map (·.1))[r]? = (wordsL.map fun l => (DataW.lit (.string l) : DataW Unit))[r]? := by rw [e3]
    rw [List.getElem?_map, List.getElem?_map, List.getElem?_eq_getElem (by omega : r < xs.length), List.getElem?_eq_getElem (by omega : r < wordsL.length), e2] at e4
    have hz : z = bs (wordsL.getD r []) := by
      simp only [Option.map_some, Option.some.injEq, DataW.lit.injEq, Lit.string.injEq] at e4
      rw [List.getD_eq_getElem?_getD, List.getElem?_eq_getElem (by omega : r < wordsL.length), Option.getD_some, ← e4]
      exact (bs_bl z).symm
    rw [World.var?_cell hg hv r, ← hz]
    have : cs.toList[r]? = some (.string z) := by
      have h0 : ((cs.toList.drop r).take 1)[0]? = some (.string z) := by rw [e1]; rfl
      simpa using h0
    simpa using this
  exact ⟨World.block_lt_of_cell? W _ (hc 0 (by decide)), hc⟩

theorem wd_of_met {r : List (String × DataW Unit)} {W : World} (h : laidMet Tryd.prog (("loop.example/manyvalues/impl.deedWords", Rows.laid_loop_example_manyvalues_impl_deedWords) :: r) W) : WdAt W := by
  obtain ⟨ps, ⟨g0, t0, cs0, f0, p0, q0, hg0, ht0, hv0, hd0, _⟩, _⟩ := h
  exact dword_cells hg0 ht0 hv0 hd0

theorem er_star : "*" ++ "errors.errorString" = "*errors.errorString" := by decide
theorem er_type (u : TypeId) (h : Tryd.prog.typeName? 3 u = some "*errors.errorString") : u = 131 :=
  typeName_ptr_named (nm := "errors.errorString") (by rw [er_star]; kernel_rfl) (by kernel_rfl) (by decide) u (by rw [er_star]; exact h)
theorem er_cells : Tryd.prog.cellsOf 133 = 1 := by kernel_rfl
theorem er_cells9 : Tryd.prog.cellsOf 9 = 1 := by kernel_rfl
theorem er_iface {n : String} {g : Nat} {l : List UInt8} {r : List (String × DataW Unit)} {W : World} (h : laidMet Tryd.prog ((n, .iface "*errors.errorString" (.ptr (.agg [.lit (.string l)]))) :: r) W) (hg : Tryd.prog.globalNamed n = some g) (ht : (Tryd.prog.globals[g]?).map (·.type) = some 68) : ∃ tp p, W.cell? ⟨g, 0, none⟩ = some (.iface tp p) := by
  obtain ⟨a, s, hv, _, _, _⟩ := laid_sentinel h hg ht Tryd.underlying68 er_type Tryd.underlying131 Tryd.underlying133 rfl rfl Tryd.underlying9 er_cells er_cells9
  exact ⟨_, _, by simpa using World.var?_cell hg hv 0⟩

def laid6 : List (String × DataW Unit) := [("math/bits.deBruijn32tab", Rows.laid_math_bits_deBruijn32tab), ("math/bits.deBruijn64tab", Rows.laid_math_bits_deBruijn64tab), ("internal/strconv.uint64pow10", Rows.laid_internal_strconv_uint64pow10), ("strconv.ErrRange", Rows.laid_strconv_ErrRange), ("strconv.ErrSyntax", Rows.laid_strconv_ErrSyntax), ("loop.example/manyvalues/impl.deedWords", Rows.laid_loop_example_manyvalues_impl_deedWords)]
def laid4 : List (String × DataW Unit) := [("math/bits.deBruijn32tab", Rows.laid_math_bits_deBruijn32tab), ("math/bits.deBruijn64tab", Rows.laid_math_bits_deBruijn64tab), ("internal/strconv.uint64pow10", Rows.laid_internal_strconv_uint64pow10), ("loop.example/manyvalues/impl.deedWords", Rows.laid_loop_example_manyvalues_impl_deedWords)]
theorem wd_of_laid6 {W : World} (h : laidMetH Tryd.prog laid6 W) : WdAt W ∧ ErAt W := by
  rw [MakeChecks.laidMetH_plain _ _ _ (by kernel_rfl)] at h
  have h3 : laidMet Tryd.prog _ W := h.tail.tail.tail
  exact ⟨wd_of_met h3.tail.tail, er_iface h3.tail (by kernel_rfl) (by kernel_rfl), er_iface h3 (by kernel_rfl) (by kernel_rfl)⟩
theorem wd_of_laid4 {W : World} (h : laidMetH Tryd.prog laid4 W) : WdAt W := by
  rw [MakeChecks.laidMetH_plain _ _ _ (by kernel_rfl)] at h
  have h3 : laidMet Tryd.prog _ W := h.tail.tail.tail
  exact wd_of_met h3

end Go.Proofs.YtnkebgkocpeonaaDoor
