/-
  Joined out of the texts DTd, DTe, DOp, DX1, DX2, DX3, DX5, DX6, DX7, DX4, DX8, DRowD, DTf, DTj, DTk, DTg, DTh, DXD, DDs, DTl, DTm, DIDo, DRun, DUa, DTp, DTs, DTt, DTu, DTw, DXM, DTx, DTn, DTy, DTq, DUb, DDk, DDd, DRd, DWb, DWe: what each holds is told at its head.
-/
import Derived.Test.YtlnffpofbfigaaaGreatDoorDTb
import Derived.Test.YtlnffpofbfigaaaGreatDoorSfd
import Derived.Lib.CutLaws
import Derived.Test.YtlnffpofbfigaaaGreatDoorDSpec
import Derived.Deep.Slices
import Derived.Deep.Fields
import Derived.Lib.SmallJoins
import Derived.Test.YtlnffpofbfigaaaGreatDoorDWa
import Derived.Test.YtlnffpofbfigaaaGreatDoorDSame
import Derived.Test.YtlnffpofbfigaaaGreatDoorDeskN
import Derived.Laws.IdiomStrings
import Derived.Test.YtlnffpofbfigaaaGreatDoorDDraw
import Derived.Test.YtlnffpofbfigaaaGreatDoorDDkA
import Derived.Test.YtlnffpofbfigaaaGreatDoorFSpec
import Derived.Laws.AppendOwn
import Derived.Test.YtlnffpofbfigaaaGreatDoorDeskR
import Derived.Test.YtlnffpofbfigaaaGreatDoorDTc
import Derived.Test.YtlnffpofbfigaaaGreatDoorDCl
import Derived.Test.YtlnffpofbfigaaaGreatDoorDLay2
import Derived.Test.YtlnffpofbfigaaaGreatDoorDDo2
import Derived.Deep.RegionHeld3
import Derived.Deep.CutRange
import Derived.Maps.AppendAt
import Derived.Test.YtlnffpofbfigaaaGreatDoorDraw4
import Derived.Deep.DeepCutAuto
import Derived.Laws.ResultCell

/-
  Cutting a text at a byte, a number's text read, the kind of deed that has a word: impl's own.
-/
namespace Go.Proofs.YtlnffpofbfigaaaGreatDoor
open Go.RowKit

/-- As long as a text may be that the library's numbers are read of. -/
def L48 : Nat := 281474976710656
theorem gr_below {w w' : World} (h : Below w.heap.size w w') : w.grownBy w' none := ⟨h.os, h.tape, h.output, h.size, fun k hk _ => h.block k hk⟩

theorem index1_any (l : List UInt8) (c : UInt8) (w : World) :
    Calls Tryz.prog 118 #[.string (bs l), .string ⟨#[c]⟩] w fun e w' => e = .returned (.int .i64 (Lib.indexB (bs l) ⟨#[c]⟩)) ∧ w' = w := by
  have h := Any.stringslite_Index_one Tryz.lays219 (bs l) c w
  rw [← Lib.index_one] at h
  exact h

def CutD (l : List UInt8) (c : UInt8) : Value := .tuple #[.string (bs (Lib.cut l [c]).1), .string (bs (Lib.cut l [c]).2.1), .bool (Lib.cut l [c]).2.2]
set_option maxHeartbeats 1600000 in
theorem cutlite_any (l : List UInt8) (c : UInt8) (w : World) (hl : l.length ≤ L48) :
    Calls Tryz.prog 91 #[.string (bs l), .string ⟨#[c]⟩] w fun e w' => e = .returned (CutD l c) ∧ w.grownBy w' none := by
  have ci := index1_any l c
  have hz := bs_size l
  unfold L48 at hl
  unfold CutD
  rcases Lib.indexB_cases (bs l) ⟨#[c]⟩ with h | ⟨i, h, hi⟩
  · obtain ⟨h1, h2, h3⟩ := Lib.cutB_miss (bs l) ⟨#[c]⟩ h
    change bs (Lib.cut l [c]).1 = _ at h1
    change bs (Lib.cut l [c]).2.1 = _ at h2
    change (Lib.cut l [c]).2.2 = _ at h3
    rw [h1, h2, h3]
    rw [h] at ci
    clear h h1 h2 h3
    go_enter Tryz.func91, Tryz.ntmps91
    go_wp2_with (first | (go_at_call 118; refine (ci _).mono ?_; rintro e w' ⟨rfl, rfl⟩))
    exact bodyPost_ret (results_tmp3 rfl _ _ _) rfl ⟨rfl, grownBy_refl _ _⟩
  · obtain ⟨h1, h2, h3⟩ := Lib.cutB_hit (bs l) ⟨#[c]⟩ i h
    change bs (Lib.cut l [c]).1 = _ at h1
    change bs (Lib.cut l [c]).2.1 = _ at h2
    change (Lib.cut l [c]).2.2 = _ at h3
    rw [h1, h2, h3]
    rw [h] at ci
    clear h h1 h2 h3
    change i + 1 ≤ (bs l).size at hi
    have ge : (i : Int) ≥ 0 := by omega
    have w1 : wrap64 ((i : Int) + 1) = (i : Int) + 1 := by unfold wrap64; omega
    have le1 : ((i : Int) ≤ ((bs l).size : Int)) := by omega
    have le2 : ((i : Int) + 1 ≤ ((bs l).size : Int)) := by omega
    have le3 : (0 : Int) ≤ (i : Int) + 1 := by omega
    have le0 : (0 : Int) ≤ (i : Int) := by omega
    clear hz hi
    generalize bs l = s at *
    go_enter Tryz.func91, Tryz.ntmps91
    go_wp2_with (first | (go_at_call 118; refine (ci _).mono ?_; rintro e w' ⟨rfl, rfl⟩))
    have mixed : Tryz.prog.follows Departure.mixedOrders = true := by kernel_rfl
    go_region_o
    all_goals go_wp2
    all_goals refine bodyPost_ret (results_tmp3 rfl _ _ _) rfl ?_
    all_goals first | exact ⟨rfl, grownBy_refl _ _⟩ | exact ⟨rfl, grownBy_drew (grownBy_refl _ _)⟩

theorem cut_any (l : List UInt8) (c : UInt8) (w : World) (hl : l.length ≤ L48) :
    Calls Tryz.prog 43 #[.string (bs l), .string ⟨#[c]⟩] w fun e w' => e = .returned (CutD l c) ∧ w.grownBy w' none := by
  have cc := fun w => cutlite_any l c w hl
  unfold CutD at cc ⊢
  go_enter Tryz.func43, Tryz.ntmps43
  go_wp2_with (first | (go_at_call 91; refine (cc _).mono ?_; rintro e w' ⟨rfl, hg⟩))
  exact bodyPost_ret (results_tmp3 rfl _ _ _) rfl ⟨rfl, hg⟩

/-- What the library hands back with an error lies as some value behind an interface. -/
def ErAt (w : World) : Prop := (∃ tp p, w.cell? ⟨3, 0, none⟩ = some (.iface tp p)) ∧ ∃ tp p, w.cell? ⟨4, 0, none⟩ = some (.iface tp p)
theorem ErAt.grown {w w' : World} (h : ErAt w) (hg : w.grownBy w' none) : ErAt w' := by
  obtain ⟨⟨a, b, h1⟩, ⟨c, d, h2⟩⟩ := h
  exact ⟨⟨a, b, (World.cell?_of_block (w := w) (hg.block _ (World.block_lt_of_cell? w _ h1) (by simp))).trans h1⟩, ⟨c, d, (World.cell?_of_block (w := w) (hg.block _ (World.block_lt_of_cell? w _ h2) (by simp))).trans h2⟩⟩

theorem atoi_ok (l : List UInt8) (hl : l.length ≤ L48) (v : Int) (h : Lib.atoiAll l = .ok v) (w : World) :
    Calls Tryz.prog 119 #[.string (bs l)] w fun e w' => e = .returned (.tuple #[.int .i64 v, .nilIface]) ∧ w.grownBy w' none := by
  have hz := bs_size l
  unfold L48 at hl
  refine Calls.mono (Any.strconv_Atoi_ok Tryz.laysC172 (bs l) (by omega) v h w) fun e w' hh => ⟨hh.1, ?_⟩
  rcases hh.2 with rfl | ⟨t, rfl⟩
  · exact grownBy_refl _ _
  · exact gr_below (Lib.bytesWorld_below _ _ _)
theorem atoi_no (l : List UInt8) (hl : l.length ≤ L48) (h : ∀ v, Lib.atoiAll l ≠ .ok v) (w : World) (hE : ErAt w) :
    Calls Tryz.prog 119 #[.string (bs l)] w fun e w' => (∃ (n : Int) (N : Nat), e = .returned (.tuple #[.int .i64 n, .iface (Tryz.laysC172_ren.t 168) (.pointer (some ⟨N, 0, none⟩))])) ∧ w.grownBy w' none := by
  have hz := bs_size l
  unfold L48 at hl
  obtain ⟨⟨a, b, h1⟩, ⟨c, d, h2⟩⟩ := hE
  cases e : Lib.atoiAll l with
  | ok v => exact absurd e (h v)
  | range =>
    refine Calls.mono (Any.strconv_Atoi_range Tryz.laysC172 (bs l) (by omega) e _ w h2 (.inr ⟨_, _, rfl⟩)) fun e w' hh => ?_
    obtain ⟨N, he, _, _, hb⟩ := hh
    exact ⟨⟨_, N, he⟩, gr_below hb⟩
  | _ =>
    refine Calls.mono (Any.strconv_Atoi_syntax Tryz.laysC172 (bs l) (by omega) e _ w h1 (.inr ⟨_, _, rfl⟩)) fun e w' hh => ?_
    obtain ⟨N, he, _, _, hb⟩ := hh
    exact ⟨⟨_, N, he⟩, gr_below hb⟩
theorem itoa2_any (k : Nat) (h : k < 100) (w : World) :
    Calls Tryz.prog 54 #[.int .i64 (k : Int)] w fun e w' => e = .returned (.string (bs (decL k))) ∧ w' = w := by
  have hh := Any.strconv_Itoa_small Tryz.lays171 k h w
  have he : Lib.decDigits k = decL k := by
    rw [← itoa_dec h]; unfold Lib.itoa; rw [if_neg (by omega), Int.toNat_natCast]
  rw [he] at hh
  exact hh

end Go.Proofs.YtlnffpofbfigaaaGreatDoor

/-
  The kind of deed that has a word; a number's text read.
-/
namespace Go.Proofs.YtlnffpofbfigaaaGreatDoor
open Go.RowKit

theorem toL_bs (l : List UInt8) : (bs l).toList = l := by rw [ByteArray.toList_eq]; rfl
theorem bs_ne {l m : List UInt8} (h : m ≠ l) : (m == (bs l).toList) = false := by rw [toL_bs]; exact beq_false_of_ne h
theorem kind_at {l : List UInt8} {k : Nat} (hk : k < 7) (hall : ∀ j, j < k → wordsL.getD j [] ≠ l) (h : wordsL.getD k [] = l) : Ending.returned (.int .i64 (k : Int)) = .returned (.int .i64 (kindI l)) := by rw [kindI_at hall hk h]
theorem bs_inj {l m : List UInt8} (h : bs l = bs m) : l = m := by have := congrArg bl h; rwa [bl_bs, bl_bs] at this
theorem word_at {k : Nat} (hk : k < 7) : ∀ w, (Instr.index 81 (.agg #[.string ⟨#[99, 104, 97, 105, 110]⟩, .string ⟨#[115, 97, 121]⟩, .string ⟨#[110, 111, 116]⟩, .string ⟨#[116, 105, 109, 101, 115]⟩, .string ⟨#[105, 102]⟩, .string ⟨#[98, 97, 115, 105, 99]⟩, .string ⟨#[98, 97, 99, 107]⟩]) (.int .i64 (k : Int))).run Tryz.prog w = .ok (.string (bs (wordsL.getD k []))) w := by
  intro w
  rcases (show k = 0 ∨ k = 1 ∨ k = 2 ∨ k = 3 ∨ k = 4 ∨ k = 5 ∨ k = 6 by omega) with rfl | rfl | rfl | rfl | rfl | rfl | rfl
  all_goals kernel_rfl
def KdRel (l : List UInt8) (w : World) (i : Value) (wr : World) : Prop := ∃ k : Nat, k ≤ 7 ∧ i = .int .i64 k ∧ (∀ j, j < k → wordsL.getD j [] ≠ l) ∧ w = wr
set_option maxRecDepth 8000 in
set_option maxHeartbeats 4000000 in
theorem kind_any (l : List UInt8) (w : World) (hT : WdAt w) :
    Calls Tryz.prog 92 #[.string (bs l)] w fun e w' => e = .returned (.int .i64 (kindI l)) ∧ w = w' := by
  obtain ⟨c0, c1, c2, c3, c4, c5, c6⟩ := hT.facts
  go_enter Tryz.func92, Tryz.ntmps92
  go_wp2
  clear c0 c1 c2 c3 c4 c5 c6 hT
  go_loopw [6] (fun i wr => KdRel l w i wr) (fun i _ => 7 - (intOf i).toNat)
  case atStart => exact ⟨0, by omega, rfl, fun j hj => absurd hj (by omega), rfl⟩
  case round =>
    obtain ⟨k, hk, rfl, hall, rfl⟩ := hrel
    by_cases h7 : k = 7
    · subst h7
      go_wp2
      go_ret
      exact ⟨by rw [kindI_no hall]; rfl, rfl⟩
    · have hlt : (k : Int) < 7 := by omega
      have hi := word_at (k := k) (by omega)
      by_cases hl : wordsL.getD k [] = l
      · have HZ := Lib.hid (kind_at (by omega) hall hl)
        rw [hl] at hi
        clear hall hl h7
        go_wp2
        go_ret
        exact ⟨Eq.trans rfl HZ.out, rfl⟩
      · have hm : ∀ j, j < k + 1 → wordsL.getD j [] ≠ l := fun j hj => by
          by_cases e : j = k
          · rw [e]; exact hl
          · exact hall j (by omega)
        have hn := bs_ne hl
        rw [← toL_bs (wordsL.getD k [])] at hn
        have HM := Lib.hid hm
        clear hall hl hm h7
        generalize bs (wordsL.getD k []) = T at *
        go_wp2
        go_roundw
        case rel => exact ⟨k + 1, by omega, by go_num, HM.out, rfl⟩
        case measure => simp [intOf]; omega

/-- A number's text read. -/
def NumC (l : List UInt8) (w : World) : Prop := Calls Tryz.prog 93 #[.string (bs l)] w fun e w' => e = .returned (.int .i64 (numI l)) ∧ w.grownBy w' none
set_option maxHeartbeats 1600000 in
theorem numin_no (l : List UInt8) (hl : l.length ≤ L48) (h : ∀ v, Lib.atoiAll l ≠ .ok v) (w : World) (hE : ErAt w) : NumC l w := by
  have ca := atoi_no l hl h w hE
  have hx : numI l = -1 := by
    unfold numI
    cases e : Lib.atoiAll l with
    | ok v => exact absurd e (h v)
    | range => rfl
    | _ => rfl
  unfold NumC
  rw [hx]
  clear hx hE h
  go_enter Tryz.func93, Tryz.ntmps93
  go_wp2_with (first | (go_at_call 119; refine ca.mono ?_; rintro e w' ⟨⟨n, N, rfl⟩, hg⟩))
  go_ret
  exact ⟨rfl, hg⟩
set_option maxHeartbeats 1600000 in
theorem numin_ok (l : List UInt8) (hl : l.length ≤ L48) (v : Int) (h : Lib.atoiAll l = .ok v) (w : World) : NumC l w := by
  have ca := atoi_ok l hl v h w
  have hx : numI l = if 0 ≤ v ∧ v ≤ 99 ∧ Lib.itoa v = l then v else -1 := by unfold numI; rw [h]
  unfold NumC
  rw [hx]
  clear hx h
  by_cases h0 : 0 ≤ v
  · by_cases h9 : v ≤ 99
    · obtain ⟨k, rfl⟩ := Int.eq_ofNat_of_zero_le h0
      have ci := itoa2_any k (by omega)
      rw [itoa_dec (by omega)]
      have n0 : ¬ ((k : Int) < 0) := by omega
      have n9 : ¬ (99 < (k : Int)) := by omega
      by_cases he : decL k = l
      · rw [if_pos ⟨h0, h9, he⟩]
        subst he
        go_enter Tryz.func93, Tryz.ntmps93
        go_wp2_with (first | (go_at_call 119; refine ca.mono ?_; rintro e w' ⟨rfl, hg⟩) | (go_at_call 54; refine (ci _).mono ?_; rintro e w' ⟨rfl, rfl⟩))
        go_ret
        exact ⟨rfl, hg⟩
      · rw [if_neg fun hh => he hh.2.2]
        have hn := bs_ne he
        rw [← toL_bs (decL k)] at hn
        go_enter Tryz.func93, Tryz.ntmps93
        go_wp2_with (first | (go_at_call 119; refine ca.mono ?_; rintro e w' ⟨rfl, hg⟩) | (go_at_call 54; refine (ci _).mono ?_; rintro e w' ⟨rfl, rfl⟩))
        go_ret
        exact ⟨rfl, hg⟩
    · rw [if_neg fun hh => h9 hh.2.1]
      have n0 : ¬ (v < 0) := by omega
      have n9 : 99 < v := by omega
      go_enter Tryz.func93, Tryz.ntmps93
      go_wp2_with (first | (go_at_call 119; refine ca.mono ?_; rintro e w' ⟨rfl, hg⟩))
      all_goals go_ret
      all_goals exact ⟨rfl, hg⟩
  · rw [if_neg fun hh => h0 hh.1]
    have n0 : v < 0 := by omega
    go_enter Tryz.func93, Tryz.ntmps93
    go_wp2_with (first | (go_at_call 119; refine ca.mono ?_; rintro e w' ⟨rfl, hg⟩))
    all_goals go_ret
    all_goals exact ⟨rfl, hg⟩
theorem num_any (l : List UInt8) (hl : l.length ≤ L48) (w : World) (hE : ErAt w) : NumC l w := by
  by_cases h : ∃ v, Lib.atoiAll l = .ok v
  · obtain ⟨v, h⟩ := h; exact numin_ok l hl v h w
  · exact numin_no l hl (fun v e => h ⟨v, e⟩) w hE

end Go.Proofs.YtlnffpofbfigaaaGreatDoor

/-
  A pair, a desk, a deed that came in, opened to their cells. No function is named.
-/
namespace Go.Proofs.YtlnffpofbfigaaaGreatDoor
open Go.RowKit Go.ChangeShapes Go.WideShapes Go.Deep Go.Joins

section
variable {H : Type} {enc : TypeId × Value → H} {P : Program} {w : World} {base : Nat} {spare : Nat → Bool} {held : Bool}
/-- What a struct of a number and a text must be. -/
structure PairT (P : Program) (t : TypeId) (f0 f1 : Field) : Prop where
  str : P.underlying t = some (.struct #[f0, f1])
  o0 : f0.offset = 0
  o1 : f1.offset = 1
  c0 : P.cellsOf f0.type = 1
  c1 : P.cellsOf f1.type = 1
  ct : P.cellsOf t = 2
  i0 : P.underlying f0.type = some (.int .i64)
  i1 : P.underlying f1.type = some .string
theorem PairT.read {t : TypeId} {f0 f1 : Field} (T : PairT P t f0 f1) {fuel : Nat} {u v : Value} {x : DataW H × List MemPlace} (h : DataW.trod enc P w base spare held fuel t [u, v] = some x) : ∃ (n : Int) (s : ByteArray), u = .int .i64 n ∧ v = .string s ∧ (Lit.int .i64 n).wf = true ∧ s.size ≤ maxLen := by
  obtain ⟨xs, n, _, _, _, hl, hf⟩ := DataW.trod_struct T.str h
  have a := hf 0 f0 rfl
  have b := hf 1 f1 rfl
  rw [T.o0, T.c0] at a
  rw [T.o1, T.c1] at b
  obtain ⟨y0, y1, rfl⟩ : ∃ y0 y1, xs = [y0, y1] := by
    match xs, hl with
    | [y0, y1], _ => exact ⟨y0, y1, rfl⟩
  obtain ⟨k, e0, _, hk⟩ := DataW.trod_int (x := y0) T.i0 (by simpa using a)
  obtain ⟨s, e1, _, hs⟩ := DataW.trod_string (x := y1) T.i1 (by simpa using b)
  simp at e0 e1
  exact ⟨k, s, e0, e1, hk, hs⟩
theorem open_pair {r : Reach} {b0 : Nat} {t : TypeId} {f0 f1 : Field} (T : PairT P t f0 f1) {v : Value} {d : DataW H} {p : List MemPlace} (hv : Value.okWide P w r b0 t v) (h : DataW.Trod enc P w base spare held t v d p) :
    ∃ (n : Int) (s : ByteArray), v = .agg #[.int .i64 n, .string s] ∧ (Lit.int .i64 n).wf = true ∧ s.size ≤ maxLen := by
  obtain ⟨cs, rfl, hc⟩ := okWide_struct T.str hv
  obtain ⟨u, x, rfl⟩ : ∃ u x, cs = #[u, x] := by
    rw [T.ct] at hc
    match cs, hc with
    | ⟨[u, x]⟩, _ => exact ⟨u, x, rfl⟩
  obtain ⟨fuel, hf⟩ := h
  obtain ⟨n, s, rfl, rfl, h1, h2⟩ := T.read hf
  exact ⟨n, s, rfl, h1, h2⟩
theorem lds_of {a : Addr} {len : Nat} (hm : len ≤ maxLen) (h : ∀ i, i < len → ∃ (n : Int) (s : ByteArray), w.cell? (a.add (i * 2)) = some (.int .i64 n) ∧ w.cell? (a.add (i * 2 + 1)) = some (.string s) ∧ s.size ≤ maxLen) :
    ∃ xs : List Ld, xs.length = len ∧ LdsAt w (some a) xs ∧ ∀ x ∈ xs, x.2.length ≤ maxLen := by
  by_cases h0 : len = 0
  · subst h0
    exact ⟨[], rfl, LdsAt.nil _ _, by simp⟩
  obtain ⟨b, off, spot⟩ := a
  have hsp : spot = none := by
    obtain ⟨n, s, c0, _⟩ := h 0 (by omega)
    simpa [Addr.add] using World.cell?_spot c0
  subst hsp
  have h' : ∀ i, i < len → ∃ (n : Int) (s : ByteArray), w.cell? ⟨b, off + i * 2, none⟩ = some (.int .i64 n) ∧ w.cell? ⟨b, off + i * 2 + 1, none⟩ = some (.string s) ∧ s.size ≤ maxLen := by
    intro i hi
    obtain ⟨n, s, c0, c1, hs⟩ := h i hi
    rw [add_none] at c0 c1
    exact ⟨n, s, c0, by rw [Nat.add_assoc]; exact c1, hs⟩
  have hch : ∃ f : Nat → Ld, ∀ i, i < len → w.cell? ⟨b, off + i * 2, none⟩ = some (.int .i64 (f i).1) ∧ w.cell? ⟨b, off + i * 2 + 1, none⟩ = some (.string (bs (f i).2)) ∧ (f i).2.length ≤ maxLen := by
    refine ⟨fun i => if hi : i < len then ((h' i hi).choose, bl (h' i hi).choose_spec.choose) else nilLd, fun i hi => ?_⟩
    have q := (h' i hi).choose_spec.choose_spec
    simp only [dif_pos hi]
    refine ⟨q.1, q.2.1, ?_⟩
    show (bl _).length ≤ maxLen
    rw [← bl_size]; exact q.2.2
  obtain ⟨f, hf⟩ := hch
  have hg : ∀ i, i < len → ((List.range len).map f).getD i nilLd = f i := fun i hi => by simp [List.getD_eq_getElem?_getD, hi]
  refine ⟨(List.range len).map f, by simp, ⟨by simpa using hm, .inr ⟨b, off, rfl, ?_, fun i hi => ?_⟩⟩, fun x hx => ?_⟩
  · have := (hf 0 (by omega)).1
    exact World.block_lt_of_cell? w _ this
  · have hi' : i < len := by simpa using hi
    rw [hg i hi']
    exact ⟨(hf i hi').1, (hf i hi').2.1⟩
  · obtain ⟨i, hi, rfl⟩ := List.mem_map.1 hx
    exact (hf i (List.mem_range.1 hi)).2.2
theorem open_pairs {t e : TypeId} {f0 f1 : Field} (T : PairT P e f0 f1) (ht : P.underlying t = some (.slice e)) {fuel : Nat} {c : Value} {x : DataW H × List MemPlace} (h : DataW.trod enc P w base spare held fuel t [c] = some x) :
    ∃ (a : Option Addr) (cap : Nat) (xs : List Ld), c = .slice a xs.length cap ∧ LdsAt w a xs ∧ (a = none → cap = 0) ∧ ∀ x ∈ xs, x.2.length ≤ maxLen := by
  rcases open_slice ht h with ⟨h0, _⟩ | ⟨a, len, cap, m, n, D, Pl, hcs, _, hl, hm, hmm, _, hi⟩
  · simp at h0
    exact ⟨none, 0, [], by rw [h0]; rfl, LdsAt.nil _ _, fun _ => rfl, by simp⟩
  · simp at hcs
    have hlm : len ≤ m := by rw [hmm]; split <;> omega
    have hc : ∀ i, i < len → ∃ (n : Int) (s : ByteArray), w.cell? (a.add (i * 2)) = some (.int .i64 n) ∧ w.cell? (a.add (i * 2 + 1)) = some (.string s) ∧ s.size ≤ maxLen := by
      intro i hil
      obtain ⟨cs', hcc, hts⟩ := hi i (by omega)
      rw [T.ct] at hcc
      obtain ⟨_, hcl, hat⟩ := World.cells?_some hcc
      obtain ⟨u, v, rfl⟩ : ∃ u v, cs' = [u, v] := by
        match cs', hcl with
        | [u, v], _ => exact ⟨u, v, rfl⟩
      obtain ⟨k, s, rfl, rfl, _, hs⟩ := T.read hts
      have q0 := hat 0 (by omega)
      have q1 := hat 1 (by omega)
      refine ⟨k, s, by rw [add_add] at q0; simpa using q0, by rw [add_add] at q1; simpa using q1, hs⟩
    obtain ⟨xs, rfl, hx, hz⟩ := lds_of (by omega) hc
    exact ⟨some a, cap, xs, hcs, hx, (by simp), hz⟩
theorem open_desk {r : Reach} {b0 : Nat} {t tl ts e : TypeId} {g0 g1 f0 f1 f2 f3 : Field} (hs : P.underlying t = some (.struct #[g0, g1])) (o0 : g0.offset = 0) (o1 : g1.offset = 2) (e0 : g0.type = tl) (e1 : g1.type = ts) (T : PairT P tl f0 f1) (ht : P.underlying ts = some (.slice e)) (E : PairT P e f2 f3) (c1 : P.cellsOf ts = 1) (ct : P.cellsOf t = 3)
    {v : Value} {d : DataW H} {p : List MemPlace} (hv : Value.okWide P w r b0 t v) (h : DataW.Trod enc P w base spare held t v d p) :
    ∃ (n : Int) (s : ByteArray) (a : Option Addr) (cap : Nat) (xs : List Ld), v = .agg #[.int .i64 n, .string s, .slice a xs.length cap] ∧ s.size ≤ maxLen ∧ LdsAt w a xs ∧ (a = none → cap = 0) ∧ ∀ x ∈ xs, x.2.length ≤ maxLen := by
  obtain ⟨cs, rfl, hc⟩ := okWide_struct hs hv
  obtain ⟨u, x, y, rfl⟩ : ∃ u x y, cs = #[u, x, y] := by
    rw [ct] at hc
    match cs, hc with
    | ⟨[u, x, y]⟩, _ => exact ⟨u, x, y, rfl⟩
  obtain ⟨fuel, hf⟩ := h
  obtain ⟨zs, n, _, _, _, hl, hg⟩ := DataW.trod_struct hs hf
  have q0 := hg 0 g0 rfl
  have q1 := hg 1 g1 rfl
  rw [o0, e0, T.ct] at q0
  rw [o1, e1, c1] at q1
  obtain ⟨z0, z1, rfl⟩ : ∃ z0 z1, zs = [z0, z1] := by
    match zs, hl with
    | [z0, z1], _ => exact ⟨z0, z1, rfl⟩
  obtain ⟨k, s, rfl, rfl, _, hs'⟩ := T.read (x := z0) (by simpa [Value.cells] using q0)
  obtain ⟨a, cap, xs, rfl, hx, h0, hz⟩ := open_pairs E ht (x := z1) (by simpa [Value.cells] using q1)
  exact ⟨k, s, a, cap, xs, rfl, hs', hx, h0, hz⟩
end

end Go.Proofs.YtlnffpofbfigaaaGreatDoor

/-
  The exact laws of LaidOk and DeskNew: copies of pairs, desks without anything of before.
-/
namespace Go.Proofs.YtlnffpofbfigaaaGreatDoor
open Go.RowKit

theorem szLaid_any (n left : Int) (s : ByteArray) (w : World) (hl : 0 ≤ left ∧ left ≤ 1048576) (hs : s.size ≤ maxLen) :
    Calls Tryz.prog 81 #[.agg #[.int .i64 n, .string s], .int .i64 left] w fun e w' => e = .returned (.int .i64 (if (s.size : Int) ≤ left then left - s.size else -1)) ∧ w.grownBy w' none := by
  have hg := World.grownBy_alloc w (.cells #[.int .i64 n, .string s] 54) none
  unfold maxLen at hs
  have hw : IntKind.i64.wrap (left - (s.size : Int)) = left - (s.size : Int) := IntWalk.i64_in _ (by omega)
  have hw2 : wrap64 (left - (s.size : Int)) = left - (s.size : Int) := by unfold wrap64; omega
  by_cases h : (s.size : Int) ≤ left
  · rw [if_pos h]
    go_enter Tryz.func81, Tryz.ntmps81
    go_wp2
    go_ret
    exact ⟨rfl, hg⟩
  · rw [if_neg h]
    go_enter Tryz.func81, Tryz.ntmps81
    go_wp2
    go_ret
    exact ⟨rfl, hg⟩

set_option maxHeartbeats 1000000 in
theorem toLaid_any (n : Int) (s : ByteArray) (w : World) :
    Calls Tryz.prog 83 #[.agg #[.int .i64 n, .string s]] w fun e w' => e = .returned (.agg #[.int .i64 n, .string s]) ∧ w.grownBy w' none := by
  go_enter Tryz.func83, Tryz.ntmps83
  go_wp2
  exact bodyPost_ret (v := .agg #[.int .i64 n, .string s]) (resLd1 rfl _ rfl ((CellsAt.second w _ _ _).grown (World.grownBy_alloc _ _ none))) rfl ⟨rfl, made3 _ _ _ _⟩

end Go.Proofs.YtlnffpofbfigaaaGreatDoor

/-
  Copies of desks that came in: the laws' szDesk, toDesk; the exact law of DeskOk.
-/
namespace Go.Proofs.YtlnffpofbfigaaaGreatDoor
open Go.RowKit

/-! A row of pairs that was handed in, and its copy. -/
def SzLd (xs : List Ld) (w : World) (i left : Value) (wr : World) : Prop := ∃ (k : Nat) (l : Int), k ≤ xs.length ∧ i = .int .i64 k ∧ left = .int .i64 l ∧ 0 ≤ l ∧ l ≤ 1048576 ∧ w.grownBy wr none
/-- What szLaidS answers with: something below 0, or a number and few pairs. -/
def SzPost (xs : List Ld) (w : World) (e : Ending) (w' : World) : Prop := ∃ v : Int, e = .returned (.int .i64 v) ∧ (v < 0 ∨ (0 ≤ v ∧ v ≤ 1048576 ∧ xs.length ≤ 1048576)) ∧ w.grownBy w' none

set_option maxRecDepth 8000 in
set_option maxHeartbeats 2000000 in
theorem szLaidS_any (left : Int) (a : Option Addr) (cap : Nat) (xs : List Ld) (w : World) (hl : 0 ≤ left ∧ left ≤ 1048576) (h : LdsAt w a xs) (hz : ∀ x ∈ xs, x.2.length ≤ maxLen) :
    Calls Tryz.prog 82 #[.slice a xs.length cap, .int .i64 left] w (SzPost xs w) := by
  have hm := h.1
  unfold maxLen at hm
  have hw2 : wrap64 (left - (xs.length : Int)) = left - (xs.length : Int) := by unfold wrap64; omega
  have H := Lib.hid h
  have HZ := Lib.hid hz
  clear h hz
  by_cases hle : (xs.length : Int) ≤ left
  · go_enter Tryz.func82, Tryz.ntmps82
    have hp : 0 ≤ left - (xs.length : Int) := by omega
    go_wp2
    go_loopw [1, 5] (fun l i wr => SzLd xs w i l wr) (fun _ i _ => xs.length - (intOf i).toNat)
    case atStart => exact ⟨0, left - xs.length, by omega, rfl, rfl, by omega, by omega, grownBy_refl _ _⟩
    case round =>
      obtain ⟨k, l, hk, rfl, rfl, hl0, hl1, hgr⟩ := hrel
      by_cases hlt : k < xs.length
      · have hx2 := H.out.grown hgr
        rcases hx2.2 with h0 | ⟨bx, ox, rfl, hbx, hcx⟩
        · rw [h0] at hlt; simp at hlt
        obtain ⟨c0, c1⟩ := hcx k hlt
        have hzk : (xs.getD k nilLd).2.length ≤ maxLen := HZ.out _ (getLd_mem hlt)
        clear hx2 hcx hbx
        generalize xs.getD k nilLd = q at *
        have cs := fun w => szLaid_any q.1 l (bs q.2) w ⟨hl0, hl1⟩ (by rw [bs_size]; exact hzk)
        have Hgr := Lib.hid hgr
        clear hgr
        by_cases hq : ((bs q.2).size : Int) ≤ l
        · simp only [if_pos hq] at cs
          have hq0 : 0 ≤ l - ((bs q.2).size : Int) := by omega
          go_wp2_with (first | (go_at_call 81; refine (cs _).mono ?_; rintro e w' ⟨rfl, hg⟩))
          go_roundw
          case rel => exact ⟨k + 1, l - ((bs q.2).size : Int), by omega, by go_num, rfl, hq0, by omega, grownBy_trans Hgr.out hg⟩
          case measure => simp [intOf]; omega
        · simp only [if_neg hq] at cs
          go_wp2_with (first | (go_at_call 81; refine (cs _).mono ?_; rintro e w' ⟨rfl, hg⟩))
          go_ret
          exact ⟨_, rfl, .inl (by decide), grownBy_trans Hgr.out hg⟩
      · obtain rfl : k = xs.length := by omega
        have Hgr := Lib.hid hgr
        clear hgr
        go_wp2
        go_ret
        exact ⟨l, rfl, .inr ⟨hl0, hl1, by omega⟩, Hgr.out⟩
  · go_enter Tryz.func82, Tryz.ntmps82
    go_wp2
    go_ret
    exact ⟨_, rfl, .inl (by omega), grownBy_refl _ _⟩

def CpLd (g : Nat) (xs : List Ld) (w : World) (i : Value) (wr : World) : Prop :=
  ∃ (k : Nat) (vs : List Value), k ≤ xs.length ∧ i = .int .i64 k ∧ wr.ownsRow w.heap.size 29 2 (.slice (some ⟨g, 0, none⟩) xs.length xs.length) xs.length vs ∧ (∀ j, j < k → vs[j * 2]? = some (.int .i64 (xs.getD j nilLd).1) ∧ vs[j * 2 + 1]? = some (.string (bs (xs.getD j nilLd).2))) ∧ w.grownBy wr none
theorem own2_copied {g : Nat} {xs : List Ld} {w wr : World} {vs : List Value} (h : wr.ownsRow w.heap.size 29 2 (.slice (some ⟨g, 0, none⟩) xs.length xs.length) xs.length vs) (hx : ∀ j, j < xs.length → vs[j * 2]? = some (.int .i64 (xs.getD j nilLd).1) ∧ vs[j * 2 + 1]? = some (.string (bs (xs.getD j nilLd).2))) : Own2 wr w.heap.size (some ⟨g, 0, none⟩) xs.length xs := by
  have e : vs = ldC xs := by
    apply List.ext_getElem?
    intro j
    by_cases hj : j < xs.length * 2
    · have hk : j / 2 < xs.length := by omega
      have k1 := hx _ hk
      have k2 := ldC_at xs _ hk
      rcases Nat.mod_two_eq_zero_or_one j with q | q
      · rw [show j = j / 2 * 2 by omega, k1.1, k2.1]
      · rw [show j = j / 2 * 2 + 1 by omega, k1.2, k2.2]
    · rw [List.getElem?_eq_none (by rw [h.1]; omega), List.getElem?_eq_none (by rw [ldC_len]; omega)]
  unfold Own2
  rw [← e]
  exact h

set_option maxRecDepth 8000 in
set_option maxHeartbeats 2000000 in
theorem toLaidS_any (a : Option Addr) (cap : Nat) (xs : List Ld) (hn : xs.length ≤ 100000000) (w : World) (h : LdsAt w a xs) :
    Calls Tryz.prog 84 #[.slice a xs.length cap] w (LdsPost xs w) := by
  obtain ⟨i0, hi, hz0, hz1, hz2⟩ := info_parts infoLd
  have Hh := Lib.hid h
  clear h
  go_enter Tryz.func84, Tryz.ntmps84
  go_wp2_with (at_make; refine wpList_make_full _ rfl _ _ 30 rfl w.heap.size 29 i0 (.agg #[.int .i64 0, .string ⟨#[]⟩]) 2 Tryz.underlying30 hi hz0 hz1 .i64 .i64 _ _ xs.length rfl rfl rfl rfl ?b2 ?b3 (Nat.le_refl _) ?_)
  case b2 => rw [hz2]; omega
  case b3 => unfold maxLen; omega
  intro w0 hown0 hgrow0
  go_wp2
  go_loopw [4] (fun i wr => CpLd w.heap.size xs w i wr) (fun i _ => xs.length - (intOf i).toNat)
  case atStart => exact ⟨0, _, by omega, rfl, hown0, fun j hj => absurd hj (by omega), hgrow0⟩
  case round =>
    obtain ⟨k, vs, hk, rfl, hown, hxs, hgr⟩ := hrel
    by_cases hlt : k < xs.length
    · have hx2 := Hh.out.grown hgr
      rcases hx2.2 with h0 | ⟨bx, ox, rfl, hbx, hcx⟩
      · rw [h0] at hlt; simp at hlt
      obtain ⟨c0, c1⟩ := hcx k hlt
      have ct := fun w => toLaid_any (xs.getD k nilLd).1 (bs (xs.getD k nilLd).2) w
      have hxl := hown.1
      have HO := Lib.hid hown
      have HG := Lib.hid hgr
      have hnew : Hid (∀ (n : Int) (t : ByteArray), n = (xs.getD k nilLd).1 → t = bs (xs.getD k nilLd).2 → ∀ j, j < k + 1 → ((vs.set (k * 2) (.int .i64 n)).set (k * 2 + 1) (.string t))[j * 2]? = some (.int .i64 (xs.getD j nilLd).1) ∧ ((vs.set (k * 2) (.int .i64 n)).set (k * 2 + 1) (.string t))[j * 2 + 1]? = some (.string (bs (xs.getD j nilLd).2))) := by
        rintro n t rfl rfl j hj
        by_cases e : j = k
        · subst e
          refine ⟨?_, ?_⟩
          · rw [List.getElem?_set_ne (by omega), List.getElem?_set_self (by omega)]
          · rw [List.getElem?_set_self (by rw [List.length_set]; omega)]
        · refine ⟨?_, ?_⟩
          · rw [List.getElem?_set_ne (by omega), List.getElem?_set_ne (by omega)]; exact (hxs j (by omega)).1
          · rw [List.getElem?_set_ne (by omega), List.getElem?_set_ne (by omega)]; exact (hxs j (by omega)).2
      have hnw := Lib.hid (hnew.out _ _ rfl rfl)
      clear hown hgr hx2 hcx hbx hxs hnew
      generalize (xs.getD k nilLd).1 = n at *
      generalize bs (xs.getD k nilLd).2 = t at *
      go_wp2_with (first | (go_at_call 83; refine (ct _).mono ?_; rintro e w2 ⟨rfl, hg⟩; have ho2 := HO.out.kept hg (by simp [Value.ownBlock]); have hst := Lib.hid (World.ownsRow.stored ho2 (k * 2) (.int .i64 n)); have hsu := Lib.hid (World.ownsRow.stored hst.out.1 (k * 2 + 1) (.string t)); have hgg := Lib.hid (grow_own2 (grow_own2 (grownBy_trans HG.out hg) ho2 (Nat.le_refl _) hst.out.2) hst.out.1 (Nat.le_refl _) hsu.out.2); have f0 := World.ownsRow.frozenAt ho2 (k * 2); have f1 := World.ownsRow.frozenAt ho2 (k * 2 + 1); have e0 := World.ownsRow.cellAt ho2 (k * 2) (by omega); have e1 := World.ownsRow.cellAt ho2 (k * 2 + 1) (by omega); rw [List.getElem?_eq_getElem (by omega)] at e0 e1; clear ho2))
      go_roundw
      case rel => exact ⟨k + 1, _, by omega, by go_num, hsu.out.1, hnw.out, hgg.out⟩
      case measure => simp [intOf]; omega
    · obtain rfl : k = xs.length := by omega
      have hs := Lib.hid (own2_copied hown hxs)
      have Hg := Lib.hid hgr
      clear hown hxs hgr
      go_wp2
      go_ret
      exact ⟨_, _, rfl, hs.out, Hg.out⟩

end Go.Proofs.YtlnffpofbfigaaaGreatDoor

/-
  Copies of desks that came in, and desks that are equal; the exact law of DeskOk.
-/
namespace Go.Proofs.YtlnffpofbfigaaaGreatDoor
open Go.RowKit

set_option maxHeartbeats 1000000 in
theorem eqLaid_yes (n : Int) (t : ByteArray) (w : World) :
    Calls Tryz.prog 85 #[.agg #[.int .i64 n, .string t], .agg #[.int .i64 n, .string t]] w fun e w' => e = .returned (.bool true) ∧ w.grownBy w' none := by
  go_enter Tryz.func85, Tryz.ntmps85
  go_wp2
  go_ret
  exact ⟨rfl, grownBy_trans (World.grownBy_alloc _ _ none) (World.grownBy_alloc _ _ none)⟩

def EqRel (xs : List Ld) (w : World) (i : Value) (wr : World) : Prop := ∃ k : Nat, k ≤ xs.length ∧ i = .int .i64 k ∧ w.grownBy wr none
set_option maxRecDepth 8000 in
set_option maxHeartbeats 2000000 in
theorem eqLaidS_yes (a b : Option Addr) (ca cb : Nat) (xs : List Ld) (w : World) (hx : LdsAt w a xs) (hy : LdsAt w b xs) :
    Calls Tryz.prog 86 #[.slice a xs.length ca, .slice b xs.length cb] w fun e w' => e = .returned (.bool true) ∧ w.grownBy w' none := by
  have hm := hx.1
  unfold maxLen at hm
  have HX := Lib.hid hx
  have HY := Lib.hid hy
  clear hx hy
  go_enter Tryz.func86, Tryz.ntmps86
  go_wp2
  go_loopw [5] (fun i wr => EqRel xs w i wr) (fun i _ => xs.length - (intOf i).toNat)
  case atStart => exact ⟨0, by omega, rfl, grownBy_refl _ _⟩
  case round =>
    obtain ⟨k, hk, rfl, hgr⟩ := hrel
    have Hgr := Lib.hid hgr
    clear hgr
    by_cases hlt : k < xs.length
    · rcases (HX.out.grown Hgr.out).2 with h0 | ⟨bx, ox, rfl, _, hcx⟩
      · rw [h0] at hlt; simp at hlt
      rcases (HY.out.grown Hgr.out).2 with h0 | ⟨by', oy, rfl, _, hcy⟩
      · rw [h0] at hlt; simp at hlt
      obtain ⟨x0, x1⟩ := hcx k hlt
      obtain ⟨y0, y1⟩ := hcy k hlt
      clear hcx hcy
      generalize xs.getD k nilLd = q at *
      go_wp2_with fail
      go_region_with (go_at_call 85; refine (eqLaid_yes _ _ _).mono ?_; rintro e w' ⟨rfl, hg⟩)
      all_goals go_wp2_with fail
      all_goals go_roundw
      all_goals first | (simp [intOf]; omega) | exact ⟨k + 1, by omega, by go_num, grownBy_trans Hgr.out (drew_grown hg)⟩ | exact ⟨k + 1, by omega, by go_num, grownBy_trans Hgr.out (grownBy_trans (grownBy_drewN (grownBy_refl _ _) _) hg)⟩
    · obtain rfl : k = xs.length := by omega
      go_wp2
      go_ret
      exact ⟨rfl, Hgr.out⟩

/-! Whole desks. -/
set_option maxRecDepth 8000 in
set_option maxHeartbeats 2000000 in
theorem szDesk_any (n : Int) (s : ByteArray) (a : Option Addr) (cap : Nat) (xs : List Ld) (w : World) (h : LdsAt w a xs) (hs : s.size ≤ maxLen) (hz : ∀ x ∈ xs, x.2.length ≤ maxLen) :
    Calls Tryz.prog 28 #[.agg #[.int .i64 n, .string s, .slice a xs.length cap], .int .i64 1048576] w (SzPost xs w) := by
  have g0 := World.grownBy_alloc w (.cells #[.int .i64 n, .string s, .slice a xs.length cap] 57) none
  have HB := Lib.hid (CellsAt.new w #[.int .i64 n, .string s, .slice a xs.length cap] 57)
  have cl := fun w1 (hg : World.grownBy _ w1 none) (l : Int) (hl : 0 ≤ l ∧ l ≤ 1048576) => szLaidS_any l a cap xs w1 hl ((h.grown g0).grown hg) hz
  have cs := fun w => szLaid_any n 1048576 s w (by omega) hs
  have G0 := Lib.hid g0
  clear h hz g0
  by_cases hq : (s.size : Int) ≤ 1048576
  · simp only [if_pos hq] at cs
    have hq0 : 0 ≤ 1048576 - (s.size : Int) := by omega
    go_enter Tryz.func28, Tryz.ntmps28
    go_wp2_with (first | (go_at_call 81; refine (cs _).mono ?_; rintro e w1 ⟨rfl, hg⟩; obtain ⟨b0, b1, b2⟩ := (HB.out.grown hg).three))
    refine (cl _ hg _ ⟨hq0, by omega⟩).mono ?_
    rintro e w2 ⟨v, rfl, hv, hg2⟩
    by_cases hneg : v < 0
    · go_wp2_with fail
      go_ret
      exact ⟨_, rfl, .inl (by decide), grownBy_trans G0.out (grownBy_trans hg hg2)⟩
    · have hv' : 0 ≤ v ∧ v ≤ 1048576 ∧ xs.length ≤ 1048576 := by
        rcases hv with q | q
        · exact absurd q hneg
        · exact q
      have HV := Lib.hid hv'
      clear hv hv'
      go_wp2_with fail
      go_ret
      exact ⟨_, rfl, .inr HV.out, grownBy_trans G0.out (grownBy_trans hg hg2)⟩
  · simp only [if_neg hq] at cs
    go_enter Tryz.func28, Tryz.ntmps28
    go_wp2_with (first | (go_at_call 81; refine (cs _).mono ?_; rintro e w1 ⟨rfl, hg⟩; obtain ⟨b0, b1, b2⟩ := (HB.out.grown hg).three))
    go_ret
    exact ⟨_, rfl, .inl (by decide), grownBy_trans G0.out hg⟩

set_option maxRecDepth 8000 in
set_option maxHeartbeats 2000000 in
theorem eqDesk_yes (n : Int) (s : ByteArray) (a b : Option Addr) (ca cb : Nat) (xs : List Ld) (w : World) (hx : LdsAt w a xs) (hy : LdsAt w b xs) :
    Calls Tryz.prog 30 #[.agg #[.int .i64 n, .string s, .slice a xs.length ca], .agg #[.int .i64 n, .string s, .slice b xs.length cb]] w fun e w' => e = .returned (.bool true) ∧ w.grownBy w' none := by
  have g2 : w.grownBy ((w.alloc (.cells #[.int .i64 n, .string s, .slice a xs.length ca] 32)).alloc (.cells #[.int .i64 n, .string s, .slice b xs.length cb] 32)) none := grownBy_trans (World.grownBy_alloc _ _ none) (World.grownBy_alloc _ _ none)
  have HB := Lib.hid (fun w' (hg : World.grownBy _ w' none) => two_desks (w := w) (A := #[.int .i64 n, .string s, .slice a xs.length ca]) (B := #[.int .i64 n, .string s, .slice b xs.length cb]) (T := 32) (U := 32) hg)
  have cl := fun w' (hg : World.grownBy _ w' none) => eqLaidS_yes a b ca cb xs w' ((hx.grown g2).grown hg) ((hy.grown g2).grown hg)
  have G2 := Lib.hid g2
  clear hx hy g2
  go_enter Tryz.func30, Tryz.ntmps30
  go_wp2_with (first | (go_at_call 85; refine (eqLaid_yes _ _ _).mono ?_; rintro e w1 ⟨rfl, hg⟩; obtain ⟨b0, b1, b2⟩ := (HB.out _ hg).1.three; obtain ⟨c0, c1, c2⟩ := (HB.out _ hg).2.three) | (go_at_call 86; refine (cl _ hg).mono ?_; rintro e w2 ⟨rfl, hg2⟩))
  go_ret
  exact ⟨rfl, grownBy_trans G2.out (grownBy_trans hg hg2)⟩

def T3 (W : World) (h : Nat) (A B C : Array Value) : Prop := CellsAt W h A 57 ∧ CellsAt W (h + 1) B 32 ∧ CellsAt W (h + 1 + 1) C 32
theorem T3.grown {W W' : World} {h : Nat} {A B C : Array Value} (k : T3 W h A B C) (hg : W.grownBy W' none) : T3 W' h A B C := ⟨k.1.grown hg, k.2.1.grown hg, k.2.2.grown hg⟩
theorem T3.set {W : World} {h : Nat} {A B C : Array Value} (k : T3 W h A B C) (i : Nat) (v : Value) : T3 (W.setCell ⟨h + 1 + 1, i, none⟩ v) h A B (C.setIfInBounds i v) :=
  ⟨k.1.kept (grownBy_set W _ i v) (by simp; omega), k.2.1.kept (grownBy_set W _ i v) (by simp), k.2.2.set i v⟩
theorem T3.facts {W : World} {h : Nat} {u v x u1 v1 x1 u2 v2 x2 : Value} (k : T3 W h #[u, v, x] #[u1, v1, x1] #[u2, v2, x2]) :
    (W.cell? ⟨h, 0, none⟩ = some u ∧ W.cell? ⟨h, 1, none⟩ = some v ∧ W.cell? ⟨h, 2, none⟩ = some x) ∧ (W.cell? ⟨h + 1, 0, none⟩ = some u1 ∧ W.cell? ⟨h + 1, 1, none⟩ = some v1 ∧ W.cell? ⟨h + 1, 2, none⟩ = some x1) ∧ (W.cell? ⟨h + 1 + 1, 0, none⟩ = some u2 ∧ W.cell? ⟨h + 1 + 1, 1, none⟩ = some v2 ∧ W.cell? ⟨h + 1 + 1, 2, none⟩ = some x2) ∧ (W.frozen? ⟨h + 1, 0, none⟩ = false ∧ W.frozen? ⟨h + 1, 1, none⟩ = false ∧ W.frozen? ⟨h + 1, 2, none⟩ = false) ∧ W.frozen? ⟨h + 1 + 1, 0, none⟩ = false ∧ W.frozen? ⟨h + 1 + 1, 1, none⟩ = false ∧ W.frozen? ⟨h + 1 + 1, 2, none⟩ = false :=
  ⟨k.1.three, k.2.1.three, k.2.2.three, ⟨k.2.1.frozen 0, k.2.1.frozen 1, k.2.1.frozen 2⟩, k.2.2.frozen 0, k.2.2.frozen 1, k.2.2.frozen 2⟩

set_option maxRecDepth 8000 in
set_option maxHeartbeats 2000000 in
theorem toDesk_any (n : Int) (s : ByteArray) (a : Option Addr) (cap : Nat) (xs : List Ld) (hn : xs.length ≤ 100000000) (w : World) (h : LdsAt w a xs) :
    Calls Tryz.prog 29 #[.agg #[.int .i64 n, .string s, .slice a xs.length cap]] w fun e w' => ∃ a' cap', e = .returned (.agg #[.int .i64 n, .string s, .slice a' xs.length cap']) ∧ Own2 w' w.heap.size a' cap' xs ∧ w.grownBy w' none := by
  have g3 := made3 w (.cells #[.int .i64 n, .string s, .slice a xs.length cap] 57) (.cells #[.int .i64 0, .string ⟨#[]⟩, .slice none 0 0] 32) (.cells #[.int .i64 0, .string ⟨#[]⟩, .slice none 0 0] 32)
  have ht : T3 (((w.alloc (.cells #[.int .i64 n, .string s, .slice a xs.length cap] 57)).alloc (.cells #[.int .i64 0, .string ⟨#[]⟩, .slice none 0 0] 32)).alloc (.cells #[.int .i64 0, .string ⟨#[]⟩, .slice none 0 0] 32)) w.heap.size #[.int .i64 n, .string s, .slice a xs.length cap] #[.int .i64 0, .string ⟨#[]⟩, .slice none 0 0] #[.int .i64 0, .string ⟨#[]⟩, .slice none 0 0] := ⟨(CellsAt.new w _ _).grown (grownBy_trans (World.grownBy_alloc _ _ none) (World.grownBy_alloc _ _ none)), (CellsAt.second w _ _ _).grown (World.grownBy_alloc _ _ none), CellsAt.third3 w _ _ _ _⟩
  have HT := Lib.hid ht
  have G3 := Lib.hid g3
  have HL := Lib.hid h
  clear h g3 ht
  go_enter Tryz.func29, Tryz.ntmps29
  go_wp2_with fail
  refine (toLaid_any n s _).mono ?_
  rintro e w1 ⟨rfl, hg1⟩
  have k1 := Lib.hid (HT.out.grown hg1)
  have g1 := Lib.hid (grownBy_trans G3.out hg1)
  obtain ⟨⟨a0, a1, a2⟩, ⟨b0, b1, b2⟩, ⟨c0, c1, c2⟩, ⟨f0, f1, f2⟩, f3, f4, f5⟩ := k1.out.facts
  have k2 := Lib.hid (show T3 ((w1.setCell ⟨w.heap.size + 1 + 1, 0, none⟩ (.int .i64 n)).setCell ⟨w.heap.size + 1 + 1, 1, none⟩ (.string s)) w.heap.size #[.int .i64 n, .string s, .slice a xs.length cap] #[.int .i64 0, .string ⟨#[]⟩, .slice none 0 0] #[.int .i64 n, .string s, .slice none 0 0] from (k1.out.set 0 (.int .i64 n)).set 1 (.string s))
  have g2 := Lib.hid (show w.grownBy ((w1.setCell ⟨w.heap.size + 1 + 1, 0, none⟩ (.int .i64 n)).setCell ⟨w.heap.size + 1 + 1, 1, none⟩ (.string s)) none from grownBy_put (grownBy_put g1.out (by omega) 0 _) (by omega) 1 _)
  clear hg1
  go_wp2_with fail
  generalize (w1.setCell ⟨w.heap.size + 1 + 1, 0, none⟩ (.int .i64 n)).setCell ⟨w.heap.size + 1 + 1, 1, none⟩ (.string s) = W2 at *
  have hb2 := k2.out.2.2.lt
  refine (toLaidS_any a cap xs hn W2 (HL.out.grown g2.out)).mono ?_
  rintro e w3 ⟨a', cap', rfl, ho, hg3⟩
  have k3 := Lib.hid (k2.out.grown hg3)
  have g3 := Lib.hid (grownBy_trans g2.out hg3)
  obtain ⟨⟨a0', a1', a2'⟩, ⟨b0', b1', b2'⟩, ⟨c0', c1', c2'⟩, ⟨f0', f1', f2'⟩, f3', f4', f5'⟩ := k3.out.facts
  have k4 := Lib.hid (show T3 (w3.setCell ⟨w.heap.size + 1 + 1, 2, none⟩ (.slice a' xs.length cap')) w.heap.size #[.int .i64 n, .string s, .slice a xs.length cap] #[.int .i64 0, .string ⟨#[]⟩, .slice none 0 0] #[.int .i64 n, .string s, .slice a' xs.length cap'] from k3.out.set 2 (.slice a' xs.length cap'))
  have F := Lib.hid (k4.out.2.1.put3 (.int .i64 n) (.string s) (.slice a' xs.length cap'))
  have O := Lib.hid (((ho.past (grownBy_set w3 (w.heap.size + 1 + 1) 2 (.slice a' xs.length cap')) hb2).past (put3_past _ (w.heap.size + 1) (.int .i64 n) (.string s) (.slice a' xs.length cap')) (by omega)).mono (base' := w.heap.size) (by omega))
  have G := Lib.hid (put3_grown (w.heap.size + 1) (grownBy_put (b := w.heap.size + 1 + 1) g3.out (by omega) 2 (.slice a' xs.length cap')) (by omega) (.int .i64 n) (.string s) (.slice a' xs.length cap'))
  clear ho hg3
  go_wp2_with fail
  exact bodyPost_ret (v := .agg #[.int .i64 n, .string s, .slice a' xs.length cap']) (resDk rfl _ rfl F.out) rfl ⟨a', cap', rfl, O.out, G.out⟩

end Go.Proofs.YtlnffpofbfigaaaGreatDoor

/-
  The laws' markText: the text of a number behind an m.
-/
namespace Go.Proofs.YtlnffpofbfigaaaGreatDoor
open Go.RowKit

def mtx (k : Nat) : List UInt8 := 109 :: decL k
def MtRel (k : Nat) (w : World) (kv ov : Value) (wr : World) : Prop := ∃ (j : Nat) (o : List UInt8), j ≤ k ∧ kv = .int .i64 j ∧ ov = .string (bs o) ∧ (0 < j → decL k = decL j ++ o) ∧ (j = 0 → decL k = o) ∧ o.length ≤ 30 ∧ w.grownBy wr none

set_option maxRecDepth 8000 in
set_option maxHeartbeats 2000000 in
theorem markText_any (k : Nat) (hk : 0 < k) (hk2 : k ≤ 100000000) (w : World) :
    Calls Tryz.prog 89 #[.int .i64 k] w fun e w' => e = .returned (.string (bs (mtx k))) ∧ w.grownBy w' none := by
  go_enter Tryz.func89, Tryz.ntmps89
  go_wp2
  go_loopw [0, 3] (fun kv ov wr => MtRel k w kv ov wr) (fun kv _ _ => (intOf kv).toNat)
  case atStart => exact ⟨k, [], Nat.le_refl _, rfl, rfl, fun _ => by simp, fun h => by omega, by simp, grownBy_refl _ _⟩
  case round =>
    obtain ⟨j, o, hj, rfl, rfl, h1, h0, hl, hgr⟩ := hrel
    have Hgr := Lib.hid hgr
    have H1 := Lib.hid h1
    have H0 := Lib.hid h0
    have hz := bs_size o
    clear hgr h1 h0
    by_cases hp : 0 < j
    · obtain ⟨c, hc⟩ : ∃ c, c = UInt8.ofNat (48 + j % 10) := ⟨_, rfl⟩
      have hb : (c.toNat : Int) = 48 + (j : Int) % 10 := by
        rw [hc, UInt8.toNat_ofNat_of_lt' (by show 48 + j % 10 < 256; omega)]; omega
      have hcv : (convert 22 9 (.slice (some ⟨wr.heap.size, 0, none⟩) 1 1)).run Tryz.prog (wr.alloc (.cells #[.int .u8 (48 + (j : Int) % 10)] 5)) = .ok (.string (bs [c])) (wr.alloc (.cells #[.int .u8 (48 + (j : Int) % 10)] 5)) := by
        refine run_convert_bytes_back _ 22 9 5 ⟨wr.heap.size, 0, none⟩ 1 [c] Tryz.underlying22 Tryz.underlying5 Tryz.underlying9 fun i hi => ?_
        have h0 : i = 0 := by simpa using hi
        subst h0
        rw [add_none]
        show _ = some (Value.int .u8 (c.toNat : Int))
        rw [hb]
        exact (CellsAt.new wr _ _).cell rfl
      have hnew : (0 < j / 10 → decL k = decL (j / 10) ++ (c :: o)) ∧ (j / 10 = 0 → decL k = c :: o) := by
        have e := H1.out hp
        by_cases h10 : j < 10
        · rw [decL_small h10, show 48 + j = 48 + j % 10 by omega, ← hc] at e
          exact ⟨fun h => by omega, fun _ => e⟩
        · rw [decL_great h10, ← hc, List.append_assoc] at e
          exact ⟨fun _ => e, fun h => by omega⟩
      have hlen : (c :: o).length ≤ 30 := by
        have hk9 := decL_len (k := k) (m := 9) (by omega) (by omega)
        by_cases h10 : j / 10 = 0
        · rw [hnew.2 h10] at hk9; omega
        · rw [hnew.1 (by omega), List.length_append] at hk9; omega
      have ho : bs [c] ++ bs o = bs (c :: o) := bs_app _ _
      have hgn := Lib.hid (grownBy_trans Hgr.out (World.grownBy_alloc wr (.cells #[.int .u8 (48 + (j : Int) % 10)] 5) none))
      have hs1 : (bs [c]).size = 1 := rfl
      have HN := Lib.hid hnew
      clear hnew hc hb
      go_wp2
      go_roundw
      case rel => exact ⟨j / 10, c :: o, by omega, by go_num, by rw [← ho], HN.out.1, HN.out.2, hlen, hgn.out⟩
      case measure => simp [intOf]; omega
    · obtain rfl : j = 0 := by omega
      go_wp2
      go_ret
      refine ⟨?_, Hgr.out⟩
      rw [mtx, (show decL k = o from H0.out trivial), show (109 :: o) = [109] ++ o from rfl, ← bs_app]
      rfl

end Go.Proofs.YtlnffpofbfigaaaGreatDoor

/-
  A row of pairs in the call's own memory, marked.
-/
namespace Go.Proofs.YtlnffpofbfigaaaGreatDoor
open Go.RowKit

/-- The pairs that the laws write into a row, from the mark k on. -/
def mkP (k : Nat) (i : Nat) : Ld := (((k + 2 * i : Nat) : Int), mtx (k + 2 * i + 1))
def mkRow (k n : Nat) : List Ld := (List.range n).map (mkP k)
theorem mkRow_len (k n : Nat) : (mkRow k n).length = n := by simp [mkRow]
theorem mkRow_at (k n i : Nat) (h : i < n) : (mkRow k n).getD i nilLd = mkP k i := by simp [mkRow, List.getD_eq_getElem?_getD, h]
/-- The row while it is marked: the first i are. -/
def MkCur (cur : Array Value) (off k n i : Nat) : Prop :=
  (∀ j, j < i → cur[off + j * 2]? = some (.int .i64 (mkP k j).1) ∧ cur[off + j * 2 + 1]? = some (.string (bs (mkP k j).2))) ∧ ∀ j, i ≤ j → j < n → ∃ u v, cur[off + j * 2]? = some u ∧ cur[off + j * 2 + 1]? = some v
theorem MkCur.next {cur : Array Value} {off k n i : Nat} (h : MkCur cur off k n i) (hi : i < n) : MkCur ((cur.setIfInBounds (off + i * 2) (.int .i64 (mkP k i).1)).setIfInBounds (off + i * 2 + 1) (.string (bs (mkP k i).2))) off k n (i + 1) := by
  obtain ⟨u, v, hu, hv⟩ := h.2 i (Nat.le_refl _) hi
  have su := (Array.getElem?_eq_some_iff.1 hu).1
  have sv := (Array.getElem?_eq_some_iff.1 hv).1
  refine ⟨fun j hj => ?_, fun j hj hn => ?_⟩
  · by_cases e : j = i
    · subst e
      refine ⟨?_, ?_⟩
      · rw [Array.getElem?_setIfInBounds_ne (by omega), Array.getElem?_setIfInBounds_self_of_lt su]
      · rw [Array.getElem?_setIfInBounds_self_of_lt (by simpa using sv)]
    · have := h.1 j (by omega)
      refine ⟨?_, ?_⟩
      · rw [Array.getElem?_setIfInBounds_ne (by omega), Array.getElem?_setIfInBounds_ne (by omega)]; exact this.1
      · rw [Array.getElem?_setIfInBounds_ne (by omega), Array.getElem?_setIfInBounds_ne (by omega)]; exact this.2
  · obtain ⟨x, y, h1, h2⟩ := h.2 j (by omega) hn
    refine ⟨x, y, ?_, ?_⟩
    · rw [Array.getElem?_setIfInBounds_ne (by omega), Array.getElem?_setIfInBounds_ne (by omega)]; exact h1
    · rw [Array.getElem?_setIfInBounds_ne (by omega), Array.getElem?_setIfInBounds_ne (by omega)]; exact h2

def MkRelD (k n g off : Nat) (w : World) (kv iv : Value) (wr : World) : Prop :=
  ∃ (i : Nat) (cur : Array Value), i ≤ n ∧ kv = .int .i64 ((k + 2 * i : Nat) : Int) ∧ iv = .int .i64 i ∧ wr.heap[g]? = some (.cells cur 29 (0, 0)) ∧ MkCur cur off k n i ∧ w.grownBy wr (some g)
theorem heap_put {W : World} {g j : Nat} {cur : Array Value} {v : Value} (h : W.heap[g]? = some (.cells cur 29 (0, 0))) : (W.setCell ⟨g, j, none⟩ v).heap[g]? = some (.cells (cur.setIfInBounds j v) 29 (0, 0)) := CellsAt.set (T := 29) h j v

theorem grown_any {a b : World} {row : Option Nat} (h : a.grownBy b none) : a.grownBy b row := ⟨h.os, h.tape, h.output, h.size, fun k hk _ => h.block k hk (by simp)⟩

set_option maxRecDepth 8000 in
set_option maxHeartbeats 2000000 in
theorem markLds_any (k n g off cap : Nat) (cur0 : Array Value) (hk : 0 < k ∧ k ≤ 10000000) (hn : n ≤ 10000000) (w : World) (hg : w.heap[g]? = some (.cells cur0 29 (0, 0))) (hm : MkCur cur0 off k n 0) :
    Calls Tryz.prog 87 #[.slice (some ⟨g, off, none⟩) n cap, .int .i64 k] w fun e w' => ∃ cur, e = .returned (.int .i64 ((k + 2 * n : Nat) : Int)) ∧ w'.heap[g]? = some (.cells cur 29 (0, 0)) ∧ MkCur cur off k n n ∧ w.grownBy w' (some g) := by
  have HG := Lib.hid hg
  have HM := Lib.hid hm
  clear hg hm
  go_enter Tryz.func87, Tryz.ntmps87
  go_wp2
  go_loopw [1, 5] (fun kv iv wr => MkRelD k n g off w kv iv wr) (fun _ iv _ => n - (intOf iv).toNat)
  case atStart => exact ⟨0, cur0, by omega, by simp, rfl, HG.out, HM.out, grownBy_refl _ _⟩
  case round =>
    obtain ⟨i, cur, hi, rfl, rfl, hh, hc, hgr⟩ := hrel
    by_cases hlt : i < n
    · obtain ⟨u, v, hu, hv⟩ := hc.2 i (Nat.le_refl _) hlt
      have c0 : wr.cell? ⟨g, off + i * 2, none⟩ = some u := by rw [cell_of_row wr g _ cur _ (0, 0) hh]; exact hu
      have f0 : wr.frozen? ⟨g, off + i * 2, none⟩ = false := frozen_of_row wr g _ cur _ hh
      have hnx := Lib.hid (hc.next hlt)
      obtain ⟨K, hK⟩ : ∃ K, K = k + 2 * i := ⟨_, rfl⟩
      have hp : Hid (mkP k i = ((K : Int), mtx (K + 1))) := by rw [hK]; rfl
      have hKs : 0 < K ∧ K ≤ 100000000 - 1 := by omega
      have cm : ∀ w, Calls Tryz.prog 89 #[.int .i64 ((K : Int) + 1)] w fun e w' => e = .returned (.string (bs (mtx (K + 1)))) ∧ w.grownBy w' none := fun w => markText_any (K + 1) (by omega) (by omega) w
      have h1 := Lib.hid (heap_put (j := off + i * 2) (v := .int .i64 (K : Int)) hh)
      have hv1 : (cur.setIfInBounds (off + i * 2) (.int .i64 (K : Int)))[off + i * 2 + 1]? = some v := by rw [Array.getElem?_setIfInBounds_ne (by omega)]; exact hv
      have HV1 := Lib.hid hv1
      have G1 := Lib.hid (grownBy_trans hgr (grownBy_set wr g (off + i * 2) (.int .i64 (K : Int))))
      rw [← hK]
      have HK := Lib.hid hK
      clear hh hc hgr hu hv hv1 hK
      go_wp2_with (first | (go_at_call 89; refine (cm _).mono ?_; rintro e w2 ⟨rfl, hg2⟩; have h2 : w2.heap[g]? = _ := (hg2.block g (Array.getElem?_eq_some_iff.1 h1.out).1 (by simp)).trans h1.out; have c1 : w2.cell? ⟨g, off + i * 2 + 1, none⟩ = some v := (by rw [cell_of_row w2 g _ _ _ (0, 0) h2]; exact HV1.out); have f1 : w2.frozen? ⟨g, off + i * 2 + 1, none⟩ = false := frozen_of_row w2 g _ _ _ h2; have h3 := Lib.hid (heap_put (j := off + i * 2 + 1) (v := .string (bs (mtx (K + 1)))) h2); have G3 := Lib.hid (grownBy_trans G1.out (grownBy_trans (grown_any hg2) (grownBy_set w2 g (off + i * 2 + 1) (.string (bs (mtx (K + 1))))))); clear h2 hg2))
      go_roundw
      case rel =>
        have e : ((K : Int) + 1 + 1) = ((k + 2 * (i + 1) : Nat) : Int) := by have := HK.out; omega
        refine ⟨i + 1, _, by omega, by rw [← e], by go_num, h3.out, ?_, G3.out⟩
        have q := hnx.out
        rw [hp.out] at q
        exact q
      case measure => simp [intOf]; omega
    · obtain rfl : i = n := by omega
      have R := Lib.hid (show ∃ cur, wr.heap[g]? = some (.cells cur 29 (0, 0)) ∧ MkCur cur off k i i ∧ w.grownBy wr (some g) from ⟨cur, hh, hc, hgr⟩)
      clear hh hc hgr
      go_wp2
      go_ret
      obtain ⟨cur, h1, h2, h3⟩ := R.out
      exact ⟨cur, rfl, h1, h2, h3⟩

end Go.Proofs.YtlnffpofbfigaaaGreatDoor

/-
  Marked rows of pairs read again; whole desks marked and read again.
-/
namespace Go.Proofs.YtlnffpofbfigaaaGreatDoor
open Go.RowKit

def HlRelD (k n : Nat) (w : World) (kv iv : Value) (wr : World) : Prop := ∃ i : Nat, i ≤ n ∧ kv = .int .i64 ((k + 2 * i : Nat) : Int) ∧ iv = .int .i64 i ∧ w.grownBy wr none

set_option maxRecDepth 8000 in
set_option maxHeartbeats 2000000 in
theorem heldLds_any (k n cap : Nat) (a : Option Addr) (hk : 0 < k ∧ k ≤ 10000000) (hn : n ≤ 10000000) (w : World) (hx : LdsAt w a (mkRow k n)) :
    Calls Tryz.prog 88 #[.slice a n cap, .int .i64 k] w fun e w' => e = .returned (.int .i64 ((k + 2 * n : Nat) : Int)) ∧ w.grownBy w' none := by
  have HX := Lib.hid hx
  clear hx
  go_enter Tryz.func88, Tryz.ntmps88
  go_wp2
  go_loopw [1, 5] (fun kv iv wr => HlRelD k n w kv iv wr) (fun _ iv _ => n - (intOf iv).toNat)
  case atStart => exact ⟨0, by omega, by simp, rfl, grownBy_refl _ _⟩
  case round =>
    obtain ⟨i, hi, rfl, rfl, hgr⟩ := hrel
    have Hgr := Lib.hid hgr
    clear hgr
    by_cases hlt : i < n
    · rcases (HX.out.grown Hgr.out).2 with h0 | ⟨b, off, rfl, hb, hc⟩
      · have := congrArg List.length h0; rw [mkRow_len] at this; simp at this; omega
      obtain ⟨c0, c1⟩ := hc i (by rw [mkRow_len]; exact hlt)
      rw [mkRow_at k n i hlt] at c0 c1
      obtain ⟨K, hK⟩ : ∃ K, K = k + 2 * i := ⟨_, rfl⟩
      have hp : mkP k i = ((K : Int), mtx (K + 1)) := by rw [hK]; rfl
      rw [hp] at c0 c1
      have cm : ∀ w, Calls Tryz.prog 89 #[.int .i64 ((K : Int) + 1)] w fun e w' => e = .returned (.string (bs (mtx (K + 1)))) ∧ w.grownBy w' none := fun w => markText_any (K + 1) (by omega) (by omega) w
      have hKb : K ≤ 100000000 := by omega
      rw [← hK]
      have HK := Lib.hid hK
      have HC := Lib.hid c1
      clear hc hb hK hp
      generalize bs (mtx (K + 1)) = T at *
      go_wp2_with fail
      go_region_with (go_at_call 89; refine (cm _).mono ?_; rintro e w2 ⟨rfl, hg2⟩; have c1' := (drew_grown hg2).cell HC.out (by simp))
      all_goals go_wp2_with fail
      all_goals go_roundw
      all_goals first | (simp [intOf]; omega) | exact ⟨i + 1, by omega, by have := HK.out; congr 1; omega, by go_num, grownBy_trans Hgr.out (drew_grown hg2)⟩
    · obtain rfl : i = n := by omega
      go_wp2
      go_ret
      exact ⟨rfl, Hgr.out⟩

end Go.Proofs.YtlnffpofbfigaaaGreatDoor

/-
  The exact law of DeskNew: a desk without anything of before.
-/
namespace Go.Proofs.YtlnffpofbfigaaaGreatDoor
open Go.RowKit

theorem markLds_nil (k : Int) (w : World) :
    Calls Tryz.prog 87 #[.slice none 0 0, .int .i64 k] w fun e w' => e = .returned (.int .i64 k) ∧ w = w' := by
  go_enter Tryz.func87, Tryz.ntmps87
  go_wp2
  go_loopw [1, 5] (fun kv i wr => kv = .int .i64 k ∧ i = .int .i64 0 ∧ w = wr) (fun _ _ _ => 0)
  case atStart => exact ⟨rfl, rfl, rfl⟩
  case round =>
    obtain ⟨rfl, rfl, rfl⟩ := hrel
    go_wp2
    go_ret
    exact ⟨rfl, rfl⟩
theorem heldLds_nil (k : Int) (w : World) :
    Calls Tryz.prog 88 #[.slice none 0 0, .int .i64 k] w fun e w' => e = .returned (.int .i64 k) ∧ w = w' := by
  go_enter Tryz.func88, Tryz.ntmps88
  go_wp2
  go_loopw [1, 5] (fun kv i wr => kv = .int .i64 k ∧ i = .int .i64 0 ∧ w = wr) (fun _ _ _ => 0)
  case atStart => exact ⟨rfl, rfl, rfl⟩
  case round =>
    obtain ⟨rfl, rfl, rfl⟩ := hrel
    go_wp2
    go_ret
    exact ⟨rfl, rfl⟩
theorem markDk_nil (m : Int) (t : ByteArray) (k : Int) (w : World) :
    Calls Tryz.prog 31 #[.agg #[.int .i64 m, .string t, .slice none 0 0], .int .i64 k] w fun e w' => e = .returned (.int .i64 k) ∧ w.grownBy w' none := by
  go_enter Tryz.func31, Tryz.ntmps31
  go_wp2_with (first | (go_at_call 87; refine (markLds_nil _ _).mono ?_; rintro e w' ⟨rfl, rfl⟩))
  go_ret
  exact ⟨rfl, World.grownBy_alloc _ _ none⟩
theorem heldDk_nil (m : Int) (t : ByteArray) (k : Int) (hk : 0 ≤ k) (w : World) :
    Calls Tryz.prog 32 #[.agg #[.int .i64 m, .string t, .slice none 0 0], .int .i64 k] w fun e w' => e = .returned (.int .i64 k) ∧ w.grownBy w' none := by
  go_enter Tryz.func32, Tryz.ntmps32
  go_wp2_with (first | (go_at_call 88; refine (heldLds_nil _ _).mono ?_; rintro e w' ⟨rfl, rfl⟩))
  go_ret
  exact ⟨rfl, World.grownBy_alloc _ _ none⟩

end Go.Proofs.YtlnffpofbfigaaaGreatDoor

/-
  Deeds counted and copied; desks with rows marked and read again.
-/
namespace Go.Proofs.YtlnffpofbfigaaaGreatDoor
open Go.RowKit

set_option maxHeartbeats 1000000 in
theorem markLds_zero (a : Option Addr) (cap : Nat) (k : Int) (w : World) :
    Calls Tryz.prog 87 #[.slice a 0 cap, .int .i64 k] w fun e w' => e = .returned (.int .i64 k) ∧ w = w' := by
  go_enter Tryz.func87, Tryz.ntmps87
  go_wp2
  go_loopw [1, 5] (fun kv iv wr => kv = .int .i64 k ∧ iv = .int .i64 0 ∧ w = wr) (fun _ _ _ => 0)
  case atStart => exact ⟨rfl, rfl, rfl⟩
  case round =>
    obtain ⟨rfl, rfl, rfl⟩ := hrel
    go_wp2
    go_ret
    exact ⟨rfl, rfl⟩

/-- What is left of a row that was marked: its pairs; nothing else changed but its own block. -/
def MarkedD (a : Option Addr) (k n : Nat) (w w' : World) : Prop := LdsAt w' a (mkRow k n) ∧ ∃ row : Option Nat, (∀ g, row = some g → 0 < n ∧ ∃ x, a = some x ∧ x.block = g) ∧ w.grownBy w' row

set_option maxHeartbeats 1000000 in
theorem markDk_any (m : Int) (t : ByteArray) (k base cap : Nat) (a : Option Addr) (xs : List Ld) (hk : 0 < k ∧ k ≤ 10000000) (hn : xs.length ≤ 10000000) (w : World) (h : OwnL w base a xs) :
    Calls Tryz.prog 31 #[.agg #[.int .i64 m, .string t, .slice a xs.length cap], .int .i64 k] w fun e w' => e = .returned (.int .i64 ((k + 2 * xs.length : Nat) : Int)) ∧ MarkedD a k xs.length w w' := by
  have h2 := h.kept (World.grownBy_alloc w (.cells #[.int .i64 m, .string t, .slice a xs.length cap] 32) none)
  have G0 := Lib.hid (fun row => World.grownBy_alloc w (.cells #[.int .i64 m, .string t, .slice a xs.length cap] 32) row)
  have cm : ∀ W, OwnL W base a xs → Calls Tryz.prog 87 #[.slice a xs.length cap, .int .i64 k] W fun e w' => e = .returned (.int .i64 ((k + 2 * xs.length : Nat) : Int)) ∧ MarkedD a k xs.length W w' := by
    intro W hW
    by_cases h0 : xs = []
    · subst h0
      refine (markLds_zero a cap k W).mono ?_
      rintro e w' ⟨rfl, rfl⟩
      exact ⟨by simp, LdsAt.nil _ _, none, by simp, grownBy_refl _ _⟩
    · obtain ⟨g, off, cur, rfl, hb, hg, hc⟩ := hW.2.resolve_left h0
      have hpos : 0 < xs.length := List.length_pos_iff.2 h0
      refine (markLds_any k xs.length g off cap cur hk hn W hg ⟨fun j hj => absurd hj (by omega), fun j _ hj => ⟨_, _, hc j hj⟩⟩).mono ?_
      rintro e w' ⟨cur', rfl, h1, h2, h3⟩
      refine ⟨rfl, ?_, some g, fun q hq => ?_, h3⟩
      · refine OwnL.at (base := 0) ⟨by rw [mkRow_len]; exact hW.1, .inr ⟨g, off, cur', rfl, Nat.zero_le _, h1, fun i hi => ?_⟩⟩
        rw [mkRow_len] at hi
        rw [mkRow_at k _ i hi]
        exact h2.1 i hi
      · cases hq
        exact ⟨hpos, _, rfl, rfl⟩
  clear h
  go_enter Tryz.func31, Tryz.ntmps31
  go_wp2_with (first | (go_at_call 87; refine (cm _ h2).mono ?_; rintro e w' ⟨rfl, hM⟩))
  go_ret
  obtain ⟨row, hr, hg⟩ := hM.2
  exact ⟨rfl, hM.1, row, hr, grownBy_trans (G0.out _) hg⟩

set_option maxHeartbeats 1000000 in
theorem heldDk_any (m : Int) (t : ByteArray) (k n cap : Nat) (a : Option Addr) (hk : 0 < k ∧ k ≤ 10000000) (hn : n ≤ 10000000) (w : World) (h : LdsAt w a (mkRow k n)) :
    Calls Tryz.prog 32 #[.agg #[.int .i64 m, .string t, .slice a n cap], .int .i64 k] w fun e w' => e = .returned (.int .i64 ((k + 2 * n : Nat) : Int)) ∧ w.grownBy w' none := by
  have g0 := World.grownBy_alloc w (.cells #[.int .i64 m, .string t, .slice a n cap] 32) none
  have h2 := h.grown g0
  have hp : ¬ ((k + 2 * n : Nat) : Int) < 0 := by omega
  clear h
  go_enter Tryz.func32, Tryz.ntmps32
  go_wp2_with (first | (go_at_call 88; refine (heldLds_any k n cap a hk hn _ h2).mono ?_; rintro e w' ⟨rfl, hM⟩))
  all_goals go_ret
  all_goals exact ⟨rfl, grownBy_trans g0 hM⟩

end Go.Proofs.YtlnffpofbfigaaaGreatDoor

/-
  Rows of deeds: what lies in them; rows that a call made.
-/
namespace Go.Proofs.YtlnffpofbfigaaaGreatDoor
open Go.RowKit

def nilDd : Dd := (0, 0, [])
/-- The cells of a row of deeds. -/
def ddC : List Dd → List Value
  | [] => []
  | x :: l => .int .i64 x.1 :: .int .i64 x.2.1 :: .string (bs x.2.2) :: ddC l
theorem ddC_len : ∀ l : List Dd, (ddC l).length = l.length * 3
  | [] => rfl
  | x :: l => by show (ddC l).length + 1 + 1 + 1 = (l.length + 1) * 3; rw [ddC_len l]; omega
theorem ddC_app : ∀ l m : List Dd, ddC (l ++ m) = ddC l ++ ddC m
  | [], m => rfl
  | x :: l, m => by show _ :: _ :: _ :: ddC (l ++ m) = _; rw [ddC_app l m]; rfl
theorem ddC_at : ∀ (l : List Dd) (i : Nat), i < l.length → (ddC l)[i * 3]? = some (.int .i64 (l.getD i nilDd).1) ∧ (ddC l)[i * 3 + 1]? = some (.int .i64 (l.getD i nilDd).2.1) ∧ (ddC l)[i * 3 + 2]? = some (.string (bs (l.getD i nilDd).2.2))
  | [], i, h => absurd h (by simp)
  | x :: l, 0, _ => ⟨rfl, rfl, rfl⟩
  | x :: l, i + 1, h => by
    have := ddC_at l i (by simpa using h)
    rw [show (i + 1) * 3 = i * 3 + 1 + 1 + 1 by omega]
    exact this
theorem ddC_one : ∀ (l : List Dd), ∀ u ∈ ddC l, u.oneCell' = true
  | [], u, h => absurd h (by simp [ddC])
  | x :: l, u, h => by
    rcases List.mem_cons.1 h with rfl | h
    · rfl
    · rcases List.mem_cons.1 h with rfl | h
      · rfl
      · rcases List.mem_cons.1 h with rfl | h
        · rfl
        · exact ddC_one l u h
theorem ddC_get {l : List Dd} {j : Nat} {u : Value} (h : (ddC l)[j]? = some u) : ∃ i, i < l.length ∧ ((j = i * 3 ∧ u = .int .i64 (l.getD i nilDd).1) ∨ (j = i * 3 + 1 ∧ u = .int .i64 (l.getD i nilDd).2.1) ∨ (j = i * 3 + 2 ∧ u = .string (bs (l.getD i nilDd).2.2))) := by
  have hj := (List.getElem?_eq_some_iff.1 h).1
  rw [ddC_len] at hj
  have hi : j / 3 < l.length := by omega
  have hc := ddC_at l (j / 3) hi
  refine ⟨j / 3, hi, ?_⟩
  have hm : j % 3 = 0 ∨ j % 3 = 1 ∨ j % 3 = 2 := by omega
  rcases hm with e | e | e
  · have ej : j = j / 3 * 3 := by omega
    rw [ej] at h
    have := h.symm.trans hc.1
    exact .inl ⟨ej, by simpa using this⟩
  · have ej : j = j / 3 * 3 + 1 := by omega
    rw [ej] at h
    have := h.symm.trans hc.2.1
    exact .inr (.inl ⟨ej, by simpa using this⟩)
  · have ej : j = j / 3 * 3 + 2 := by omega
    rw [ej] at h
    have := h.symm.trans hc.2.2
    exact .inr (.inr ⟨ej, by simpa using this⟩)

/-- A row of deeds as it can be read. -/
def DdsAt (w : World) (a : Option Addr) (xs : List Dd) : Prop :=
  xs.length ≤ maxLen ∧ (xs = [] ∨ ∃ b off, a = some ⟨b, off, none⟩ ∧ b < w.heap.size ∧ ∀ i, i < xs.length → w.cell? ⟨b, off + i * 3, none⟩ = some (.int .i64 (xs.getD i nilDd).1) ∧ w.cell? ⟨b, off + i * 3 + 1, none⟩ = some (.int .i64 (xs.getD i nilDd).2.1) ∧ w.cell? ⟨b, off + i * 3 + 2, none⟩ = some (.string (bs (xs.getD i nilDd).2.2)))
theorem DdsAt.kept {w w' : World} {a : Option Addr} {xs : List Dd} {row : Option Nat} (h : DdsAt w a xs) (hg : w.grownBy w' row) (hne : ∀ x, a = some x → some x.block ≠ row) : DdsAt w' a xs := by
  refine ⟨h.1, ?_⟩
  rcases h.2 with h | ⟨b, off, ha, hb, hc⟩
  · exact .inl h
  · exact .inr ⟨b, off, ha, Nat.lt_of_lt_of_le hb hg.size, fun i hi => ⟨(World.cell?_of_block (w := w) (a := ⟨b, off + i * 3, none⟩) (hg.block b hb (hne _ ha))).trans (hc i hi).1, (World.cell?_of_block (w := w) (a := ⟨b, off + i * 3 + 1, none⟩) (hg.block b hb (hne _ ha))).trans (hc i hi).2.1, (World.cell?_of_block (w := w) (a := ⟨b, off + i * 3 + 2, none⟩) (hg.block b hb (hne _ ha))).trans (hc i hi).2.2⟩⟩
theorem DdsAt.grown {w w' : World} {a : Option Addr} {xs : List Dd} (h : DdsAt w a xs) (hg : w.grownBy w' none) : DdsAt w' a xs := h.kept hg (by simp)
theorem DdsAt.nil (w : World) (a : Option Addr) : DdsAt w a [] := ⟨by simp, .inl rfl⟩
theorem DdsAt.take {w : World} {a : Option Addr} {xs : List Dd} (h : DdsAt w a xs) (n : Nat) : DdsAt w a (xs.take n) := by
  refine ⟨Nat.le_trans (by rw [List.length_take]; omega) h.1, ?_⟩
  rcases h.2 with h | ⟨b, off, ha, hb, hc⟩
  · exact .inl (by rw [h, List.take_nil])
  · refine .inr ⟨b, off, ha, hb, fun i hi => ?_⟩
    rw [List.length_take] at hi
    have e : (xs.take n).getD i nilDd = xs.getD i nilDd := by
      rw [List.getD_eq_getElem?_getD, List.getD_eq_getElem?_getD, List.getElem?_take, if_pos (by omega)]
    rw [e]
    exact hc i (by omega)
theorem DdsAt.drop {w : World} {b off : Nat} {xs : List Dd} (h : DdsAt w (some ⟨b, off, none⟩) xs) (n : Nat) : DdsAt w (some ⟨b, off + n * 3, none⟩) (xs.drop n) := by
  refine ⟨Nat.le_trans (by rw [List.length_drop]; omega) h.1, ?_⟩
  rcases h.2 with h | ⟨b', off', ha, hb, hc⟩
  · exact .inl (by rw [h, List.drop_nil])
  · cases ha
    refine .inr ⟨b, off + n * 3, rfl, hb, fun i hi => ?_⟩
    rw [List.length_drop] at hi
    have e : (xs.drop n).getD i nilDd = xs.getD (n + i) nilDd := by
      rw [List.getD_eq_getElem?_getD, List.getD_eq_getElem?_getD, List.getElem?_drop]
    have k := hc (n + i) (by omega)
    rw [show off + (n + i) * 3 = off + n * 3 + i * 3 by omega] at k
    rw [e]
    exact k

/-- A row of deeds that the call owns, from its block's first cell on. -/
def Own3 (w : World) (base : Nat) (a : Option Addr) (cap : Nat) (xs : List Dd) : Prop :=
  w.ownsRow base 40 3 (.slice a xs.length cap) xs.length (ddC xs)
theorem own3_shape {w : World} {base n : Nat} {v : Value} {zs : List Dd} (h : w.ownsRow base 40 3 v n (ddC zs)) : ∃ a cap, v = .slice a zs.length cap ∧ n = zs.length ∧ Own3 w base a cap zs := by
  have hl := h.1
  rw [ddC_len] at hl
  obtain rfl : n = zs.length := by omega
  rcases h.2 with ⟨rfl, h0⟩ | ⟨g, cap, cur, rfl, h1⟩
  · exact ⟨none, 0, by rw [h0], rfl, by unfold Own3; rw [h0]; rw [h0] at h; exact h⟩
  · exact ⟨some ⟨g, 0, none⟩, cap, rfl, rfl, h⟩
theorem Own3.nil (w : World) (base : Nat) : Own3 w base none 0 [] := World.ownsRow_nil _ _ _ _
theorem Own3.made (w : World) : Own3 (w.alloc (.cells #[] 40)) w.heap.size (some ⟨w.heap.size, 0, none⟩) 0 [] := World.ownsRow_made w #[] 0 (Nat.le_refl _) (Nat.zero_le _) rfl
theorem Own3.kept {w w' : World} {base : Nat} {a : Option Addr} {cap : Nat} {zs : List Dd} (h : Own3 w base a cap zs) (hg : w.grownBy w' none) : Own3 w' base a cap zs :=
  World.ownsRow.kept h hg (by cases (Value.slice a zs.length cap).ownBlock <;> simp)
theorem Own3.past {w w' : World} {base b : Nat} {a : Option Addr} {cap : Nat} {zs : List Dd} (h : Own3 w base a cap zs) (hg : w.grownBy w' (some b)) (hb : b < base) : Own3 w' base a cap zs :=
  World.ownsRow.kept h hg (.inr fun e => by have := World.ownsRow.lt h _ e; omega)
theorem Own3.bare {w : World} {base : Nat} {a : Option Addr} {cap : Nat} {zs : List Dd} (h : Own3 w base a cap zs) : a = none → cap = 0 := by
  intro e
  subst e
  rcases h.2 with ⟨h0, _⟩ | ⟨g, c, cur, he, _⟩
  · simp only [Value.slice.injEq] at h0; exact h0.2.2
  · simp at he
theorem Own3.room {w : World} {base : Nat} {a : Option Addr} {cap : Nat} {zs : List Dd} (h : Own3 w base a cap zs) : zs.length ≤ cap ∧ cap ≤ maxLen := by
  rcases h.2 with ⟨h0, h1⟩ | ⟨g, c, cur, he, _, _, hn, hc, _⟩
  · simp only [Value.slice.injEq] at h0
    rw [h1, h0.2.2]; exact ⟨Nat.le_refl _, Nat.zero_le _⟩
  · simp only [Value.slice.injEq, true_and] at he
    rw [he.2]; exact ⟨hn, hc⟩
theorem Own3.mono {w : World} {base base' : Nat} {a : Option Addr} {cap : Nat} {zs : List Dd} (h : Own3 w base a cap zs) (hb : base' ≤ base) : Own3 w base' a cap zs := by
  refine ⟨h.1, ?_⟩
  rcases h.2 with h | ⟨g, c, cur, h1, h2, h3⟩
  · exact .inl h
  · exact .inr ⟨g, c, cur, h1, Nat.le_trans hb h2, h3⟩
theorem Own3.curs {w : World} {base : Nat} {a : Option Addr} {cap : Nat} {zs : List Dd} (h : Own3 w base a cap zs) : zs = [] ∨ ∃ (g : Nat) (cur : Array Value), a = some ⟨g, 0, none⟩ ∧ base ≤ g ∧ w.heap[g]? = some (.cells cur 40 (0, 0)) ∧ ∀ i, i < zs.length → cur[i * 3]? = some (.int .i64 (zs.getD i nilDd).1) ∧ cur[i * 3 + 1]? = some (.int .i64 (zs.getD i nilDd).2.1) ∧ cur[i * 3 + 2]? = some (.string (bs (zs.getD i nilDd).2.2)) := by
  rcases h.2 with ⟨_, h0⟩ | ⟨g, c, cur, he, hb, hg, hnc, hcm, hcs, htake⟩
  · exact .inl (List.length_eq_zero_iff.1 h0)
  · simp only [Value.slice.injEq, true_and] at he
    obtain ⟨rfl, rfl⟩ := he
    refine .inr ⟨g, cur, rfl, hb, hg, fun i hi => ?_⟩
    have k := ddC_at zs i hi
    rw [← htake, List.getElem?_take, if_pos (by omega), List.getElem?_take, if_pos (by omega), List.getElem?_take, if_pos (by omega)] at k
    simpa using k
theorem Own3.at {w : World} {base : Nat} {a : Option Addr} {cap : Nat} {zs : List Dd} (h : Own3 w base a cap zs) : DdsAt w a zs := by
  refine ⟨Nat.le_trans h.room.1 h.room.2, ?_⟩
  rcases h.curs with h | ⟨g, cur, ha, hb, hg, hc⟩
  · exact .inl h
  · refine .inr ⟨g, 0, ha, (Array.getElem?_eq_some_iff.1 hg).1, fun i hi => ?_⟩
    rw [cell_of_row w g _ cur _ (0, 0) hg, cell_of_row w g _ cur _ (0, 0) hg, cell_of_row w g _ cur _ (0, 0) hg, Nat.zero_add]
    exact hc i hi

theorem infoDd : (Tryz.prog.info? 40).map (fun i => (i.zero, i.size, i.bytes)) = some (some (.agg #[.int .i64 0, .int .i64 0, .string ⟨#[]⟩]), 3, 32) := by kernel_rfl

def DdsPost (xs : List Dd) (w : World) (e : Ending) (w' : World) : Prop :=
  ∃ a cap, e = .returned (.slice a xs.length cap) ∧ Own3 w' w.heap.size a cap xs ∧ w.grownBy w' none
theorem grow_own3 {a b c : World} {base : Nat} {v : Value} {n : Nat} {xs : List Value} {e : TypeId} (h : a.grownBy b none) (ho : b.ownsRow base e 3 v n xs) (hb : a.heap.size ≤ base) (k : b.grownBy c v.ownBlock) : a.grownBy c none :=
  ⟨k.os.trans h.os, k.tape.trans h.tape, k.output.trans h.output, Nat.le_trans h.size k.size, fun i hi _ => by
    refine (k.block i (Nat.lt_of_lt_of_le hi h.size) fun e => ?_).trans (h.block i hi (by simp))
    have := World.ownsRow.lt ho i e.symm
    omega⟩

end Go.Proofs.YtlnffpofbfigaaaGreatDoor

/-
  A deed's text read: impl's ReadDeed.
-/
namespace Go.Proofs.YtlnffpofbfigaaaGreatDoor
open Go.RowKit

theorem resDdB {fn : Func} {p u : Tmp} (h : fn.results = #[.cell p 40, .tmp u]) (tmps : Array Value) {w : World} {B : Nat} {x y z b : Value} (hp : tmps.getD p undef = .pointer (some ⟨B, 0, none⟩)) (hu : tmps.getD u undef = b) (hB : CellsAt w B #[x, y, z] 40) :
    (results fn tmps).run Tryz.prog w = .ok (.tuple #[.agg #[x, y, z], b]) w := by
  rw [results_cell_tmp h, hp, hu]
  have := run_loadVar_row w B 40 40 #[x, y, z] (0, 0) _ hB Tryz.underlying40 rfl sizeDd
  simp only [asAddr, Sem.run_pure, Result.andThen_ok, this]
/-- What is answered where a text is read. -/
def rdV (l : List UInt8) : Value := match rdD l with | some a => .tuple #[ddV a, .bool true] | none => .tuple #[ddV nilDd, .bool false]
def RdDPost (l : List UInt8) (w : World) (e : Ending) (w' : World) : Prop := e = .returned (rdV l) ∧ w.grownBy w' none
theorem rdV_some {l : List UInt8} {a : Dd} (h : rdD l = some a) : rdV l = .tuple #[ddV a, .bool true] := by unfold rdV; rw [h]
theorem rdV_none {l : List UInt8} (h : rdD l = none) : rdV l = .tuple #[ddV nilDd, .bool false] := by unfold rdV; rw [h]

theorem ErAt.past {w w' : World} {b : Nat} (h : ErAt w) (hg : w.grownBy w' (some b)) (hs : 3 ≠ b) (hr : 4 ≠ b) : ErAt w' := by
  obtain ⟨⟨a, b, h1⟩, ⟨c, d, h2⟩⟩ := h
  exact ⟨⟨a, b, (World.cell?_of_block (w := w) (hg.block _ (World.block_lt_of_cell? w _ h1) (by simpa using hs))).trans h1⟩, ⟨c, d, (World.cell?_of_block (w := w) (hg.block _ (World.block_lt_of_cell? w _ h2) (by simpa using hr))).trans h2⟩⟩
theorem WdAt.past {w w' : World} {b : Nat} (h : WdAt w) (hg : w.grownBy w' (some b)) (hb : 0 ≠ b) : WdAt w' :=
  ⟨Nat.lt_of_lt_of_le h.1 hg.size, fun i hi => (World.cell?_of_block (w := w) (hg.block _ h.1 (by simpa using hb))).trans (h.2 i hi)⟩
theorem ErAt.lt {w : World} (h : ErAt w) : 3 < w.heap.size ∧ 4 < w.heap.size := by
  obtain ⟨⟨a, b, h1⟩, ⟨c, d, h2⟩⟩ := h
  exact ⟨World.block_lt_of_cell? w _ h1, World.block_lt_of_cell? w _ h2⟩

/-- What lies where while a text is read: the answer's box, the deed's box. -/
def RdS (w W : World) (b : Nat) (u v x : Value) : Prop := CellsAt W w.heap.size #[.int .i64 0, .int .i64 0, .string ⟨#[]⟩] 40 ∧ CellsAt W b #[u, v, x] 40 ∧ WdAt W ∧ ErAt W ∧ w.grownBy W none ∧ w.heap.size < b ∧ WdAt w ∧ ErAt w
theorem RdS.new {w w1 : World} (hT : WdAt w) (hE : ErAt w) (hg : (w.alloc (.cells #[.int .i64 0, .int .i64 0, .string ⟨#[]⟩] 40)).grownBy w1 none) (u v x : Value) : RdS w (w1.alloc (.cells #[u, v, x] 40)) w1.heap.size u v x :=
  have g := grownBy_trans (grownBy_trans (World.grownBy_alloc _ _ none) hg) (World.grownBy_alloc w1 (.cells #[u, v, x] 40) none)
  have h1 := (CellsAt.new w #[.int .i64 0, .int .i64 0, .string ⟨#[]⟩] 40).grown hg
  ⟨h1.grown (World.grownBy_alloc _ _ none), CellsAt.new _ _ _, hT.grown g, hE.grown g, g, h1.lt, hT, hE⟩
theorem RdS.grown {w W W' : World} {b : Nat} {u v x : Value} (h : RdS w W b u v x) (g : W.grownBy W' none) : RdS w W' b u v x :=
  ⟨h.1.grown g, h.2.1.grown g, h.2.2.1.grown g, h.2.2.2.1.grown g, grownBy_trans h.2.2.2.2.1 g, h.2.2.2.2.2⟩
theorem RdS.set {w W : World} {b : Nat} {u v x : Value} (h : RdS w W b u v x) (y z : Value) : RdS w ((W.setCell ⟨b, 1, none⟩ y).setCell ⟨b, 2, none⟩ z) b u y z := by
  obtain ⟨h1, h2, h3, h4, h5, h6, h7, h8⟩ := h
  have l1 := h7.1
  have l2 := h8.lt
  have g1 := grownBy_set W b 1 y
  have g2 := grownBy_set (W.setCell ⟨b, 1, none⟩ y) b 2 z
  exact ⟨(h1.kept g1 (by simp; omega)).kept g2 (by simp; omega), (h2.set 1 y).set 2 z, (h3.past g1 (by omega)).past g2 (by omega), (h4.past g1 (by omega) (by omega)).past g2 (by omega) (by omega), grownBy_put (grownBy_put h5 (by omega) 1 y) (by omega) 2 z, h6, h7, h8⟩
theorem RdS.facts {w W : World} {b : Nat} {u v x : Value} (h : RdS w W b u v x) : ((W.cell? ⟨b, 0, none⟩ = some u ∧ W.cell? ⟨b, 1, none⟩ = some v ∧ W.cell? ⟨b, 2, none⟩ = some x) ∧ W.frozen? ⟨b, 0, none⟩ = false ∧ W.frozen? ⟨b, 1, none⟩ = false ∧ W.frozen? ⟨b, 2, none⟩ = false) ∧ (W.cell? ⟨w.heap.size, 0, none⟩ = some (.int .i64 0) ∧ W.cell? ⟨w.heap.size, 1, none⟩ = some (.int .i64 0) ∧ W.cell? ⟨w.heap.size, 2, none⟩ = some (.string ⟨#[]⟩)) ∧ W.frozen? ⟨w.heap.size, 0, none⟩ = false ∧ W.frozen? ⟨w.heap.size, 1, none⟩ = false ∧ W.frozen? ⟨w.heap.size, 2, none⟩ = false := ⟨set_facts h.2.1, set_facts h.1⟩
theorem RdS.fin {w W : World} {b : Nat} {u v x : Value} (h : RdS w W b u v x) (p q r : Value) : CellsAt (((W.setCell ⟨w.heap.size, 0, none⟩ p).setCell ⟨w.heap.size, 1, none⟩ q).setCell ⟨w.heap.size, 2, none⟩ r) w.heap.size #[p, q, r] 40 ∧ w.grownBy (((W.setCell ⟨w.heap.size, 0, none⟩ p).setCell ⟨w.heap.size, 1, none⟩ q).setCell ⟨w.heap.size, 2, none⟩ r) none :=
  ⟨h.1.put3 _ _ _, grownBy_put (grownBy_put (grownBy_put h.2.2.2.2.1 (Nat.le_refl _) 0 p) (Nat.le_refl _) 1 q) (Nat.le_refl _) 2 r⟩

set_option maxRecDepth 8000 in
set_option maxHeartbeats 4000000 in
theorem ird_nil (w : World) (hT : WdAt w) (hE : ErAt w) :
    Calls Tryz.prog 44 #[.string ⟨#[]⟩] w (RdDPost [] w) := by
  have cc := cut_any [] 32
  have ek : kindI (Lib.cut [] [32]).1 = -1 := by decide +kernel
  have hw := rdV_none (wrote_no (s := []) (.inl rfl))
  unfold RdDPost
  rw [hw]
  unfold CutD at cc
  unfold ddV nilDd
  have HT := Lib.hid hT
  have HE := Lib.hid hE
  clear hT hw hE
  go_enter Tryz.func44, Tryz.ntmps44
  go_wp2_with (first | (go_at_call 43; refine (cc _ (by decide)).mono ?_; rintro e w1 ⟨rfl, hg⟩; have hT1 := HT.out.grown (grownBy_trans (World.grownBy_alloc _ _ none) hg); have S0 := Lib.hid (RdS.new HT.out HE.out hg (.int .i64 (-1)) (.int .i64 0) (.string (bs (Lib.cut [] [32]).2.1))); obtain ⟨⟨⟨x0, x1, x2⟩, y0, y1, y2⟩, ⟨z0, z1, z2⟩, v0, v1, v2⟩ := S0.out.facts; clear hg) | (go_at_call 92; refine (kind_any _ _ hT1).mono ?_; rw [ek]; rintro e w2 ⟨rfl, rfl⟩))
  have E := S0.out.fin (.int .i64 0) (.int .i64 0) (.string ⟨#[]⟩)
  exact bodyPost_ret (resDdB rfl _ rfl rfl E.1) rfl ⟨rfl, E.2⟩

set_option maxRecDepth 8000 in
set_option maxHeartbeats 4000000 in
/-- Another word than a chain's. -/
theorem ird_word (l : List UInt8) (K : Int) (T B : List UInt8) (f : Bool) (w : World) (hT : WdAt w) (hE : ErAt w) (h0 : l ≠ []) (ht : (Lib.cut l [32]) = (T, B, f)) (hk : kindI T = K) (hK : K ≠ 0) (hl : l.length ≤ L48) :
    Calls Tryz.prog 44 #[.string (bs l)] w (RdDPost l w) := by
  have cc := cut_any l 32
  have hw : wroteA l = (K, 0, B) := by unfold wroteA; rw [ht, hk]; exact if_neg hK
  have he := empty_bs h0
  have hK0 : (K == 0) = false := beq_false_of_ne hK
  unfold CutD at cc
  rw [ht] at cc
  unfold RdDPost
  have HT := Lib.hid hT
  have HE := Lib.hid hE
  have HL := Lib.hid hl
  have HK := Lib.hid hk
  have ci := fun w hT => itx_any (K, 0, B) w hT
  unfold TxPost ddV at ci
  clear hT hE hl hk hK ht
  by_cases hx : txD (K, 0, B) = l
  · have hr := rdV_some (wrote_yes h0 (by rw [hw]; exact hx))
    rw [hw] at hr
    rw [hr]
    rw [hx] at ci
    unfold ddV
    clear hr hw hx h0
    go_enter Tryz.func44, Tryz.ntmps44
    go_wp2_with (first | (go_at_call 43; refine (cc _ HL.out).mono ?_; rintro e w1 ⟨rfl, hg⟩; have hT1 := HT.out.grown (grownBy_trans (World.grownBy_alloc _ _ none) hg); have S0 := Lib.hid (RdS.new HT.out HE.out hg (.int .i64 K) (.int .i64 0) (.string (bs B))); obtain ⟨⟨⟨x0, x1, x2⟩, y0, y1, y2⟩, ⟨z0, z1, z2⟩, v0, v1, v2⟩ := S0.out.facts; clear hg) | (go_at_call 92; refine (kind_any _ _ hT1).mono ?_; rw [HK.out]; rintro e w2 ⟨rfl, rfl⟩) | (go_at_call 15; refine (ci _ S0.out.2.2.1).mono ?_; rintro e w2 ⟨rfl, hg⟩; have S1 := Lib.hid (S0.out.grown hg); obtain ⟨⟨⟨p0, p1, p2⟩, q0, q1, q2⟩, ⟨r0, r1, r2⟩, s0, s1, s2⟩ := S1.out.facts; clear hg))
    have E := S1.out.fin (.int .i64 K) (.int .i64 0) (.string (bs B))
    exact bodyPost_ret (resDdB rfl _ rfl rfl E.1) rfl ⟨rfl, E.2⟩
  · have hr := rdV_none (wrote_no (s := l) (.inr (by rw [hw]; exact hx)))
    rw [hr]
    have hne := bs_ne hx
    rw [← toL_bs (txD (K, 0, B))] at hne
    generalize txD (K, 0, B) = X at *
    unfold ddV nilDd
    clear hr hw hx h0
    go_enter Tryz.func44, Tryz.ntmps44
    go_wp2_with (first | (go_at_call 43; refine (cc _ HL.out).mono ?_; rintro e w1 ⟨rfl, hg⟩; have hT1 := HT.out.grown (grownBy_trans (World.grownBy_alloc _ _ none) hg); have S0 := Lib.hid (RdS.new HT.out HE.out hg (.int .i64 K) (.int .i64 0) (.string (bs B))); obtain ⟨⟨⟨x0, x1, x2⟩, y0, y1, y2⟩, ⟨z0, z1, z2⟩, v0, v1, v2⟩ := S0.out.facts; clear hg) | (go_at_call 92; refine (kind_any _ _ hT1).mono ?_; rw [HK.out]; rintro e w2 ⟨rfl, rfl⟩) | (go_at_call 15; refine (ci _ S0.out.2.2.1).mono ?_; rintro e w2 ⟨rfl, hg⟩; have S1 := Lib.hid (S0.out.grown hg); obtain ⟨⟨⟨p0, p1, p2⟩, q0, q1, q2⟩, ⟨r0, r1, r2⟩, s0, s1, s2⟩ := S1.out.facts; clear hg))
    have E := S1.out.fin (.int .i64 0) (.int .i64 0) (.string ⟨#[]⟩)
    exact bodyPost_ret (resDdB rfl _ rfl rfl E.1) rfl ⟨rfl, E.2⟩

end Go.Proofs.YtlnffpofbfigaaaGreatDoor

/-
  A text parted at a byte, as the model parts it.
-/
namespace Go.Proofs.YtlnffpofbfigaaaGreatDoor
open Go.RowKit

theorem infoTx : (Tryz.prog.info? 9).map (fun i => (i.zero, i.size, i.bytes)) = some (some (.string ⟨#[]⟩), 1, 16) := by kernel_rfl
theorem ext_bs (l : List UInt8) (f k : Nat) : (bs l).extract f k = bs ((l.drop f).take (k - f)) := by
  refine bl_inj ?_
  show ((bs l).extract f k).data.toList = _
  rw [bl_bs, ByteArray.data_extract, Array.toList_extract]
  show List.take (k - f) (List.drop f l) = _
  rfl
theorem txC_snoc (L : List (List UInt8)) (c : List UInt8) : (L.map fun x => Value.string (bs x)) ++ [Value.string (bs c)] = (L ++ [c]).map fun x => Value.string (bs x) := by simp
theorem onetx_news (w : World) (s : ByteArray) : ∀ j u, ([Value.string s] : List Value)[j]? = some u → (w.alloc (.cells #[.string s] 9)).cell? ((⟨w.heap.size, 0, none⟩ : Addr).add j) = some u := by
  intro j u hj
  match j, hj with
  | 0, hj => simp at hj; subst hj; simp [Addr.add]
theorem onetx_cell (s : ByteArray) : ∀ u ∈ ([Value.string s] : List Value), u.oneCell' = true := by intro u hu; simp at hu; subst hu; rfl
/-- What was parted so far, and what is left. -/
def CtRel (p : UInt8) (l : List UInt8) (w : World) (v fv kv : Value) (wr : World) : Prop :=
  ∃ (L : List (List UInt8)) (f k : Nat), f ≤ k ∧ k ≤ l.length ∧ fv = .int .i64 f ∧ kv = .int .i64 k ∧ L.length ≤ k ∧ cutL p l = L ++ cutG p ((l.drop f).take (k - f)) (l.drop k) ∧ wr.ownsRow w.heap.size 9 1 v L.length (L.map fun x => Value.string (bs x)) ∧ w.grownBy wr none

theorem grTx_row {a b c : World} {base : Nat} {v : Value} {n : Nat} {xs : List Value} {e : TypeId} (h : a.grownBy b none) (ho : b.ownsRow base e 1 v n xs) (hb : a.heap.size ≤ base) (k : b.grownBy c v.ownBlock) : a.grownBy c none :=
  ⟨k.os.trans h.os, k.tape.trans h.tape, k.output.trans h.output, Nat.le_trans h.size k.size, fun i hi hne => by
    refine (k.block i (Nat.lt_of_lt_of_le hi h.size) fun e => ?_).trans (h.block i hi hne)
    have := World.ownsRow.lt ho i e.symm
    omega⟩
/-- The texts as they lie. -/
def TxsAt (w : World) (a : Option Addr) (L : List (List UInt8)) : Prop := ∃ g, a = some ⟨g, 0, none⟩ ∧ ∀ i, i < L.length → w.cell? ⟨g, i, none⟩ = some (.string (bs (L.getD i [])))
theorem TxsAt.grown {w w' : World} {a : Option Addr} {L : List (List UInt8)} (h : TxsAt w a L) (hg : w.grownBy w' none) : TxsAt w' a L := by
  obtain ⟨g, ha, hc⟩ := h
  exact ⟨g, ha, fun i hi => (World.cell?_of_block (w := w) (hg.block _ (World.block_lt_of_cell? w _ (hc i hi)) (by simp))).trans (hc i hi)⟩
theorem own_txs {w : World} {base : Nat} {v : Value} {L : List (List UInt8)} (h : w.ownsRow base 9 1 v L.length (L.map fun x => Value.string (bs x))) (hL : 1 ≤ L.length) : ∃ a cap, v = .slice a L.length cap ∧ TxsAt w a L := by
  rcases h.2 with ⟨rfl, h0⟩ | ⟨g, cap, cur, rfl, hb, _, hlc, hcc, _⟩
  · omega
  · refine ⟨some ⟨g, 0, none⟩, cap, rfl, g, rfl, fun i hi => ?_⟩
    have := World.ownsRow.cellAt h i (by omega)
    rw [this]
    simp [List.getD_eq_getElem?_getD, hi]
def ScPost (p : UInt8) (l : List UInt8) (w : World) (e : Ending) (w' : World) : Prop := ∃ a cap, e = .returned (.slice a (cutL p l).length cap) ∧ TxsAt w' a (cutL p l) ∧ w.grownBy w' none

set_option maxRecDepth 100000 in
set_option maxHeartbeats 4000000 in
theorem scut_any (p : UInt8) (l : List UInt8) (hl : l.length ≤ 2097152) (w : World) :
    Calls Tryz.prog 73 #[.string (bs l), .int .u8 (p.toNat : Int)] w (ScPost p l w) := by
  have hz := bs_size l
  obtain ⟨i0, hi, hz0, hz1, hz2⟩ := info_parts infoTx
  have o1 := World.ownsRow_lit (e := 9) (size := 1) w #[] 0 (Nat.le_refl _) (by unfold maxLen; omega) rfl
  have g1 := World.grownBy_alloc w (.cells #[] 9) none
  go_enter Tryz.func73, Tryz.ntmps73
  go_wp2
  go_loopw [5, 6, 7] (fun v fv kv wr => CtRel p l w v fv kv wr) (fun _ _ kv _ => l.length - (intOf kv).toNat)
  case atStart => exact ⟨[], 0, 0, by omega, by omega, rfl, rfl, by simp, by simp [cutL], o1, g1⟩
  case round =>
    obtain ⟨L, f, k, hfk, hkl, rfl, rfl, hLk, hcut, hown, hgr⟩ := hrel
    have e9 := ext_bs l f k
    have hA := World.ownsRow.alloc hown (.cells #[.string ((bs l).extract f k)] 9)
    by_cases hlt : k < l.length
    · obtain ⟨c, r, hd⟩ : ∃ c r, l.drop k = c :: r := by
        cases hx : l.drop k with
        | nil => have := congrArg List.length hx; simp at this; omega
        | cons c r => exact ⟨c, r, rfl⟩
      have hidx := idx_run (s := bs l) (p := k) hd
      have hd1 : l.drop (k + 1) = r := by rw [← List.drop_drop, hd]; rfl
      have w1 : wrap64 ((k : Int) + 1) = (k : Int) + 1 := by unfold wrap64; omega
      by_cases hc : c = p
      · subst hc
        rw [hd, cutG_hit] at hcut
        have hcut2 : cutL c l = (L ++ [(l.drop f).take (k - f)]) ++ cutG c ((l.drop (k + 1)).take (k + 1 - (k + 1))) (l.drop (k + 1)) := by rw [hcut, hd1]; simp
        have HC := Lib.hid hcut2
        have HG := Lib.hid hgr
        have E9 := Lib.hid e9
        clear hcut hcut2 hd hd1 e9 hown hgr
        go_wp2_with (at_builtin; refine wpList_append_own _ rfl _ _ 49 rfl w.heap.size 9 i0 (.string ⟨#[]⟩) 1 16 Tryz.underlying49 hi hz0 hz1 hz2 rfl (by decide) _ _ _ rfl hA ⟨wr.heap.size, 0, none⟩ 1 1 [.string ((bs l).extract f k)] rfl rfl (onetx_news _ _) (onetx_cell _) ?c3 ?c4 ?c5 ?_)
        case c3 => unfold maxLen; omega
        case c4 => omega
        case c5 => have := HG.out.size; simp; omega
        intro v' w3 hown' hgrow _
        have G3 := Lib.hid (grTx_row (grownBy_trans HG.out (World.grownBy_alloc wr (.cells #[.string ((bs l).extract f k)] 9) none)) hA (Nat.le_refl _) hgrow)
        rw [E9.out, txC_snoc] at hown'
        rw [show L.length + 1 = (L ++ [(l.drop f).take (k - f)]).length by simp] at hown'
        have O3 := Lib.hid hown'
        clear hown' hgrow hA hidx
        go_wp2
        go_roundw
        case rel => exact ⟨L ++ [(l.drop f).take (k - f)], k + 1, k + 1, by omega, by omega, by go_num, by go_num, by simp; omega, HC.out, O3.out, G3.out⟩
        case measure => simp [intOf]; omega
      · have hne : ((c.toNat : Int) == (p.toNat : Int)) = false := beq_false_of_ne fun e => hc (UInt8.toNat_inj.1 (by exact_mod_cast e))
        have hne2 : ¬ (c.toNat = p.toNat) := fun e => hc (UInt8.toNat_inj.1 e)
        rw [hd, cutG_miss _ _ hc] at hcut
        have hcut2 : cutL p l = L ++ cutG p ((l.drop f).take (k + 1 - f)) (l.drop (k + 1)) := by
          rw [hcut, hd1, show k + 1 - f = (k - f) + 1 by omega, List.take_add_one]
          congr 2
          rw [List.getElem?_drop, show f + (k - f) = k by omega]
          have : l[k]? = some c := by have := congrArg (fun x => x[0]?) hd; simpa using this
          rw [this]; rfl
        have HC := Lib.hid hcut2
        have HG := Lib.hid hgr
        have HO := Lib.hid hown
        clear hcut hcut2 hd hd1 e9 hown hgr hA
        go_wp2
        go_roundw
        case rel => exact ⟨L, f, k + 1, by omega, by omega, rfl, by go_num, by omega, HC.out, HO.out, HG.out⟩
        case measure => simp [intOf]; omega
    · obtain rfl : k = l.length := by omega
      rw [List.drop_length, cutG_nil] at hcut
      have HC := Lib.hid hcut
      have HG := Lib.hid hgr
      have E9 := Lib.hid e9
      clear hcut e9 hown hgr
      go_wp2_with (at_builtin; refine wpList_append_own _ rfl _ _ 49 rfl w.heap.size 9 i0 (.string ⟨#[]⟩) 1 16 Tryz.underlying49 hi hz0 hz1 hz2 rfl (by decide) _ _ _ rfl hA ⟨wr.heap.size, 0, none⟩ 1 1 [.string ((bs l).extract f l.length)] rfl rfl (onetx_news _ _) (onetx_cell _) ?d3 ?d4 ?d5 ?_)
      case d3 => unfold maxLen; omega
      case d4 => omega
      case d5 => have := HG.out.size; simp; omega
      intro v' w3 hown' hgrow _
      have G3 := Lib.hid (grTx_row (grownBy_trans HG.out (World.grownBy_alloc wr (.cells #[.string ((bs l).extract f l.length)] 9) none)) hA (Nat.le_refl _) hgrow)
      rw [E9.out, txC_snoc, ← HC.out, show L.length + 1 = (cutL p l).length by rw [HC.out]; simp] at hown'
      obtain ⟨a, cap, rfl, hS⟩ := own_txs hown' (by rw [HC.out]; simp)
      clear hown' hgrow hA
      go_wp2
      go_ret
      exact ⟨a, cap, rfl, hS, G3.out⟩

end Go.Proofs.YtlnffpofbfigaaaGreatDoor

/-
  A number's text read, as the model reads it.
-/
namespace Go.Proofs.YtlnffpofbfigaaaGreatDoor
open Go.RowKit

/-- The number whose digits these are. -/
def valN : List UInt8 → Int → Int
  | [], n => n
  | c :: r, n => valN r (10 * n + digV c)
theorem valN_app : ∀ (l : List UInt8) (c : UInt8) (n : Int), valN (l ++ [c]) n = 10 * valN l n + digV c
  | [], _, _ => rfl
  | x :: l, c, n => by show valN (l ++ [c]) _ = _; rw [valN_app l c]; rfl
theorem take_snocB {l r : List UInt8} {c : UInt8} {k : Nat} (hd : l.drop k = c :: r) : l.take (k + 1) = l.take k ++ [c] := by
  rw [List.take_add_one]
  have : l[k]? = some c := by have := congrArg (fun x => x[0]?) hd; simpa using this
  rw [this]; rfl
theorem dig_done {l : List UInt8} (h1 : 1 ≤ l.length) (h2 : l.length ≤ 2) (hz : ¬ (1 < l.length ∧ l.getD 0 0 = 48)) (ha : ∀ c ∈ l, isD c = true) : digI l = valN l 0 := by
  match l, h1, h2, hz, ha with
  | [c], _, _, _, ha => rw [digI_one (ha c (by simp))]; show _ = 10 * 0 + digV c; omega
  | [c, d], _, _, hz, ha =>
    rw [digI_two (ha c (by simp)) (ha d (by simp)) (fun e => hz ⟨by simp, by simpa using e⟩)]
    show _ = 10 * (10 * 0 + digV c) + digV d
    omega
theorem dig_bad {l : List UInt8} {c : UInt8} (h2 : l.length ≤ 2) (hm : c ∈ l) (hc : isD c = false) : digI l = -1 := by
  match l, h2, hm with
  | [], _, hm => cases hm
  | [a], _, hm => rw [List.mem_singleton] at hm; subst hm; exact digI_one_no hc
  | [a, b], _, hm =>
    rcases List.mem_cons.1 hm with h | h
    · subst h; exact digI_two_no (.inl hc)
    · rw [List.mem_singleton] at h; subst h; exact digI_two_no (.inr (.inl hc))
theorem dig_zero {l : List UInt8} {r : List UInt8} (hd : l = 48 :: r) (hr : 1 < l.length) : digI l = -1 := by
  subst hd
  match r, hr with
  | [], hr => simp at hr
  | [d], _ => exact digI_two_no (.inr (.inr rfl))
  | d :: e :: r, _ => exact digI_long (by simp)

/-! The walks. -/
theorem digV_le (c : UInt8) (h : isD c = true) : 0 ≤ digV c ∧ digV c ≤ 9 := inB_of h
theorem isD_ways (c : UInt8) : (isD c = true ∧ ¬ (c.toNat : Int) < 48 ∧ ¬ 57 < (c.toNat : Int)) ∨ (isD c = false ∧ ((c.toNat : Int) < 48 ∨ (¬ (c.toNat : Int) < 48 ∧ 57 < (c.toNat : Int)))) := by
  by_cases g : (c.toNat : Int) < 48
  · exact .inr ⟨inB_f (by unfold digV; omega), .inl g⟩
  · by_cases g2 : 57 < (c.toNat : Int)
    · exact .inr ⟨inB_f (by unfold digV; omega), .inr ⟨g, g2⟩⟩
    · exact .inl ⟨inB_t (by unfold digV; omega), g, g2⟩
def DgRel1 (c : UInt8) (w : World) (nv kv : Value) (wr : World) : Prop := w = wr ∧ ((nv = .int .i64 0 ∧ kv = .int .i64 0) ∨ (isD c = true ∧ nv = .int .i64 ((c.toNat : Int) - 48) ∧ kv = .int .i64 1))
def DgRel2 (c d : UInt8) (w : World) (nv kv : Value) (wr : World) : Prop := w = wr ∧ ((nv = .int .i64 0 ∧ kv = .int .i64 0) ∨ (isD c = true ∧ nv = .int .i64 ((c.toNat : Int) - 48) ∧ kv = .int .i64 1) ∨ (isD c = true ∧ isD d = true ∧ nv = .int .i64 (10 * ((c.toNat : Int) - 48) + ((d.toNat : Int) - 48)) ∧ kv = .int .i64 2))
set_option maxRecDepth 8000 in
set_option maxHeartbeats 4000000 in
theorem sdig_1 (c : UInt8) (w : World) :
    Calls Tryz.prog 76 #[.string (bs [c])] w fun e w' => e = .returned (.int .i64 (digI [c])) ∧ w = w' := by
  have hz : (bs [c]).size = 1 := bs_size [c]
  have cn := in_any 1 1 2
  rw [show inB 1 1 2 = true from rfl] at cn
  have hidx0 : ∀ w : World, (Instr.index 9 (.string (bs [c])) (.int .i64 0)).run Tryz.prog w = .ok (.int .u8 (c.toNat : Int)) w := fun w => idx_run (s := bs [c]) (p := 0) (c := c) rfl w
  have hlt := c.toNat_lt
  obtain ⟨S, hS⟩ : ∃ S, bs [c] = S := ⟨_, rfl⟩
  rw [hS] at hz hidx0 ⊢
  clear hS
  go_enter Tryz.func76, Tryz.ntmps76
  go_wp2_with (first | (go_at_call 96; refine (cn _).mono ?_; rintro e w' ⟨rfl, rfl⟩))
  clear cn
  go_loopw [3, 4] (fun nv kv wr => DgRel1 c w nv kv wr) (fun _ kv _ => 1 - (intOf kv).toNat)
  case atStart => exact ⟨rfl, .inl ⟨rfl, rfl⟩⟩
  case round =>
    obtain ⟨rfl, hrel⟩ := hrel
    rcases hrel with ⟨rfl, rfl⟩ | ⟨hc, rfl, rfl⟩
    · rcases isD_ways c with ⟨hx, g1, g2⟩ | ⟨hx, g1 | ⟨g1, g2⟩⟩
      · have wx : IntKind.u8.wrap ((c.toNat : Int) - 48) = (c.toNat : Int) - 48 := by rw [IntKind.wrap_u8]; omega
        have wy : wrap64 ((c.toNat : Int) - 48) = (c.toNat : Int) - 48 := by unfold wrap64; omega
        go_wp2
        go_roundw
        case rel => exact ⟨rfl, .inr ⟨hx, by go_num, rfl⟩⟩
        case measure => simp [intOf]
      · go_wp2
        go_ret
        exact ⟨by rw [digI_one_no hx]; rfl, rfl⟩
      · go_wp2
        go_ret
        exact ⟨by rw [digI_one_no hx]; rfl, rfl⟩
    · go_wp2
      go_ret
      exact ⟨by rw [digI_one hc]; rfl, rfl⟩

set_option maxRecDepth 8000 in
set_option maxHeartbeats 4000000 in
theorem sdig_2 (c d : UInt8) (h48 : c ≠ 48) (w : World) :
    Calls Tryz.prog 76 #[.string (bs [c, d])] w fun e w' => e = .returned (.int .i64 (digI [c, d])) ∧ w = w' := by
  have hz : (bs [c, d]).size = 2 := bs_size [c, d]
  have cn := in_any 2 1 2
  rw [show inB 2 1 2 = true from rfl] at cn
  have hidx0 : ∀ w : World, (Instr.index 9 (.string (bs [c, d])) (.int .i64 0)).run Tryz.prog w = .ok (.int .u8 (c.toNat : Int)) w := fun w => idx_run (s := bs [c, d]) (p := 0) (c := c) rfl w
  have hidx1 : ∀ w : World, (Instr.index 9 (.string (bs [c, d])) (.int .i64 1)).run Tryz.prog w = .ok (.int .u8 (d.toNat : Int)) w := fun w => idx_run (s := bs [c, d]) (p := 1) (c := d) (r := []) rfl w
  have hne : ((c.toNat : Int) == 48) = false := beq_false_of_ne fun e => h48 (UInt8.toNat_inj.1 (by rw [show (48 : UInt8).toNat = 48 from rfl]; omega))
  have hlt := c.toNat_lt
  have hlt2 := d.toNat_lt
  obtain ⟨S, hS⟩ : ∃ S, bs [c, d] = S := ⟨_, rfl⟩
  rw [hS] at hz hidx0 hidx1 ⊢
  clear hS
  go_enter Tryz.func76, Tryz.ntmps76
  go_wp2_with (first | (go_at_call 96; refine (cn _).mono ?_; rintro e w' ⟨rfl, rfl⟩))
  clear cn
  go_loopw [3, 4] (fun nv kv wr => DgRel2 c d w nv kv wr) (fun _ kv _ => 2 - (intOf kv).toNat)
  case atStart => exact ⟨rfl, .inl ⟨rfl, rfl⟩⟩
  case round =>
    obtain ⟨rfl, hrel⟩ := hrel
    rcases hrel with ⟨rfl, rfl⟩ | ⟨hc, rfl, rfl⟩ | ⟨hc, hd, rfl, rfl⟩
    · rcases isD_ways c with ⟨hx, g1, g2⟩ | ⟨hx, g1 | ⟨g1, g2⟩⟩
      · have wx : IntKind.u8.wrap ((c.toNat : Int) - 48) = (c.toNat : Int) - 48 := by rw [IntKind.wrap_u8]; omega
        have wy : wrap64 ((c.toNat : Int) - 48) = (c.toNat : Int) - 48 := by unfold wrap64; omega
        go_wp2
        go_roundw
        case rel => exact ⟨rfl, .inr (.inl ⟨hx, by go_num, rfl⟩)⟩
        case measure => simp [intOf]
      · go_wp2
        go_ret
        exact ⟨by rw [digI_two_no (.inl hx)]; rfl, rfl⟩
      · go_wp2
        go_ret
        exact ⟨by rw [digI_two_no (.inl hx)]; rfl, rfl⟩
    · rcases isD_ways d with ⟨hx, g1, g2⟩ | ⟨hx, g1 | ⟨g1, g2⟩⟩
      · have wx : IntKind.u8.wrap ((d.toNat : Int) - 48) = (d.toNat : Int) - 48 := by rw [IntKind.wrap_u8]; omega
        have hcv := digV_le c hc
        unfold digV at hcv
        have wy : wrap64 (10 * ((c.toNat : Int) - 48)) = 10 * ((c.toNat : Int) - 48) := by unfold wrap64; omega
        have wz : wrap64 (10 * ((c.toNat : Int) - 48) + ((d.toNat : Int) - 48)) = 10 * ((c.toNat : Int) - 48) + ((d.toNat : Int) - 48) := by unfold wrap64; omega
        go_wp2
        go_roundw
        case rel => exact ⟨rfl, .inr (.inr ⟨hc, hx, by go_num, rfl⟩)⟩
        case measure => simp [intOf]
      · go_wp2
        go_ret
        exact ⟨by rw [digI_two_no (.inr (.inl hx))]; rfl, rfl⟩
      · go_wp2
        go_ret
        exact ⟨by rw [digI_two_no (.inr (.inl hx))]; rfl, rfl⟩
    · go_wp2
      go_ret
      exact ⟨by rw [digI_two hc hd h48]; rfl, rfl⟩

set_option maxHeartbeats 1000000 in
theorem sdig_zero (d : UInt8) (w : World) :
    Calls Tryz.prog 76 #[.string (bs [48, d])] w fun e w' => e = .returned (.int .i64 (digI [48, d])) ∧ w = w' := by
  have hz : (bs [48, d]).size = 2 := bs_size [48, d]
  have cn := in_any 2 1 2
  rw [show inB 2 1 2 = true from rfl] at cn
  have hidx0 : ∀ w : World, (Instr.index 9 (.string (bs [48, d])) (.int .i64 0)).run Tryz.prog w = .ok (.int .u8 48) w := fun w => idx_run (s := bs [48, d]) (p := 0) (c := 48) rfl w
  rw [digI_two_no (.inr (.inr rfl))]
  obtain ⟨S, hS⟩ : ∃ S, bs [48, d] = S := ⟨_, rfl⟩
  rw [hS] at hz hidx0 ⊢
  clear hS
  go_enter Tryz.func76, Tryz.ntmps76
  go_wp2_with (first | (go_at_call 96; refine (cn _).mono ?_; rintro e w' ⟨rfl, rfl⟩))
  go_ret
  exact ⟨rfl, rfl⟩
set_option maxHeartbeats 1000000 in
theorem sdig_len (l : List UInt8) (h : l = [] ∨ 2 < l.length) (hl : l.length ≤ 2097152) (w : World) :
    Calls Tryz.prog 76 #[.string (bs l)] w fun e w' => e = .returned (.int .i64 (digI l)) ∧ w = w' := by
  have hz := bs_size l
  have cn := in_any (l.length : Int) 1 2
  rw [show inB (l.length : Int) 1 2 = false from inB_f (by rcases h with rfl | h <;> simp <;> omega)] at cn
  rw [show digI l = -1 from by rcases h with rfl | h; exact digI_nil; exact digI_long h]
  clear h
  generalize bs l = S at *
  go_enter Tryz.func76, Tryz.ntmps76
  go_wp2_with (first | (go_at_call 96; refine (cn _).mono ?_; rintro e w' ⟨rfl, rfl⟩))
  go_ret
  exact ⟨rfl, rfl⟩
theorem sdig_any (l : List UInt8) (hl : l.length ≤ 2097152) (w : World) :
    Calls Tryz.prog 76 #[.string (bs l)] w fun e w' => e = .returned (.int .i64 (digI l)) ∧ w = w' := by
  match l, hl with
  | [], hl => exact sdig_len [] (.inl rfl) hl w
  | [c], _ => exact sdig_1 c w
  | [c, d], _ =>
    by_cases h : c = 48
    · subst h; exact sdig_zero d w
    · exact sdig_2 c d h w
  | c :: d :: e :: r, hl => exact sdig_len _ (.inr (by simp)) hl w

end Go.Proofs.YtlnffpofbfigaaaGreatDoor

/-
  A deed's text read: impl's ReadDeed where the word is a chain's; and all.
-/
namespace Go.Proofs.YtlnffpofbfigaaaGreatDoor
open Go.RowKit

set_option maxRecDepth 8000 in
set_option maxHeartbeats 4000000 in
theorem ird_chain (l : List UInt8) (T B : List UInt8) (f : Bool) (w : World) (hT : WdAt w) (hE : ErAt w) (h0 : l ≠ []) (ht : (Lib.cut l [32]) = (T, B, f)) (hk : kindI T = 0) (hl : l.length ≤ L48) :
    Calls Tryz.prog 44 #[.string (bs l)] w (RdDPost l w) := by
  have cc := cut_any l 32
  have hw : wroteA l = (0, numI B, []) := by unfold wroteA; rw [ht, hk]; exact if_pos rfl
  have he := empty_bs h0
  have hB : B.length ≤ L48 := by have := (cut_len l 32).2; rw [ht] at this; exact Nat.le_trans this hl
  have cn := fun w hE => num_any B hB w hE
  unfold NumC at cn
  unfold CutD at cc
  rw [ht] at cc
  unfold RdDPost
  have HT := Lib.hid hT
  have HE := Lib.hid hE
  have HL := Lib.hid hl
  have HK := Lib.hid hk
  have ci := fun w hT => itx_any (0, numI B, []) w hT
  unfold TxPost ddV at ci
  rw [show bs ([] : List UInt8) = ⟨#[]⟩ from rfl] at ci
  clear hT hE hl hk ht hB
  by_cases hx : txD (0, numI B, []) = l
  · have hr := rdV_some (wrote_yes h0 (by rw [hw]; exact hx))
    rw [hw] at hr
    rw [hr]
    rw [hx] at ci
    unfold ddV
    clear hr hw hx h0
    generalize numI B = V at *
    go_enter Tryz.func44, Tryz.ntmps44
    go_wp2_with (first | (go_at_call 43; refine (cc _ HL.out).mono ?_; rintro e w1 ⟨rfl, hg⟩; have hT1 := HT.out.grown (grownBy_trans (World.grownBy_alloc _ _ none) hg); have S0 := Lib.hid (RdS.new HT.out HE.out hg (.int .i64 0) (.int .i64 0) (.string (bs B))); obtain ⟨⟨⟨x0, x1, x2⟩, y0, y1, y2⟩, ⟨z0, z1, z2⟩, v0, v1, v2⟩ := S0.out.facts; clear hg) | (go_at_call 92; refine (kind_any _ _ hT1).mono ?_; rw [HK.out]; rintro e w2 ⟨rfl, rfl⟩) | (go_at_call 93; refine (cn _ S0.out.2.2.2.1).mono ?_; rintro e w2 ⟨rfl, hg⟩; have S1 := Lib.hid (S0.out.grown hg); obtain ⟨⟨⟨p0, p1, p2⟩, q0, q1, q2⟩, ⟨r0, r1, r2⟩, s0, s1, s2⟩ := S1.out.facts; have S2 := Lib.hid (S1.out.set (.int .i64 V) (.string ⟨#[]⟩)); obtain ⟨⟨⟨a0, a1, a2⟩, b0, b1, b2⟩, ⟨c0, c1, c2⟩, d0, d1, d2⟩ := S2.out.facts; clear hg) | (go_at_call 15; refine (ci _ S2.out.2.2.1).mono ?_; rintro e w3 ⟨rfl, hg⟩; have S3 := Lib.hid (S2.out.grown hg); obtain ⟨⟨⟨e0, e1, e2⟩, f0, f1, f2⟩, ⟨g0, g1, g2⟩, i0, i1, i2⟩ := S3.out.facts; clear hg))
    have E := S3.out.fin (.int .i64 0) (.int .i64 V) (.string ⟨#[]⟩)
    exact bodyPost_ret (resDdB rfl _ rfl rfl E.1) rfl ⟨rfl, E.2⟩
  · have hr := rdV_none (wrote_no (s := l) (.inr (by rw [hw]; exact hx)))
    rw [hr]
    have hne := bs_ne hx
    rw [← toL_bs (txD (0, numI B, []))] at hne
    generalize txD (0, numI B, []) = X at *
    unfold ddV nilDd
    clear hr hw hx h0
    generalize numI B = V at *
    go_enter Tryz.func44, Tryz.ntmps44
    go_wp2_with (first | (go_at_call 43; refine (cc _ HL.out).mono ?_; rintro e w1 ⟨rfl, hg⟩; have hT1 := HT.out.grown (grownBy_trans (World.grownBy_alloc _ _ none) hg); have S0 := Lib.hid (RdS.new HT.out HE.out hg (.int .i64 0) (.int .i64 0) (.string (bs B))); obtain ⟨⟨⟨x0, x1, x2⟩, y0, y1, y2⟩, ⟨z0, z1, z2⟩, v0, v1, v2⟩ := S0.out.facts; clear hg) | (go_at_call 92; refine (kind_any _ _ hT1).mono ?_; rw [HK.out]; rintro e w2 ⟨rfl, rfl⟩) | (go_at_call 93; refine (cn _ S0.out.2.2.2.1).mono ?_; rintro e w2 ⟨rfl, hg⟩; have S1 := Lib.hid (S0.out.grown hg); obtain ⟨⟨⟨p0, p1, p2⟩, q0, q1, q2⟩, ⟨r0, r1, r2⟩, s0, s1, s2⟩ := S1.out.facts; have S2 := Lib.hid (S1.out.set (.int .i64 V) (.string ⟨#[]⟩)); obtain ⟨⟨⟨a0, a1, a2⟩, b0, b1, b2⟩, ⟨c0, c1, c2⟩, d0, d1, d2⟩ := S2.out.facts; clear hg) | (go_at_call 15; refine (ci _ S2.out.2.2.1).mono ?_; rintro e w3 ⟨rfl, hg⟩; have S3 := Lib.hid (S2.out.grown hg); obtain ⟨⟨⟨e0, e1, e2⟩, f0, f1, f2⟩, ⟨g0, g1, g2⟩, i0, i1, i2⟩ := S3.out.facts; clear hg))
    have E := S3.out.fin (.int .i64 0) (.int .i64 0) (.string ⟨#[]⟩)
    exact bodyPost_ret (resDdB rfl _ rfl rfl E.1) rfl ⟨rfl, E.2⟩

theorem ird_any (l : List UInt8) (w : World) (hT : WdAt w) (hE : ErAt w) (hl : l.length ≤ L48) :
    Calls Tryz.prog 44 #[.string (bs l)] w (RdDPost l w) := by
  by_cases h0 : l = []
  · subst h0; exact ird_nil w hT hE
  · by_cases hk : kindI (Lib.cut l [32]).1 = 0
    · exact ird_chain l _ _ _ w hT hE h0 rfl hk hl
    · exact ird_word l _ _ _ _ w hT hE h0 rfl rfl hk hl

end Go.Proofs.YtlnffpofbfigaaaGreatDoor

/-
  The walk of FnDeedText.
-/
namespace Go.Proofs.YtlnffpofbfigaaaGreatDoor
open Go.RowKit

def DtxPost (w : World) (e : Ending) (w' : World) : Prop := ∃ D : Dd, e = .returned (ddV D) ∧ D.2.2.length ≤ 100 ∧ w.grownBy w' none

theorem tx_len (a : Dd) : (txD a).length ≤ 66 := by
  by_cases h : txD a = []
  · rw [h]; simp
  · have hh := told_of h
    generalize txD a = s at *
    cases hh with
    | chain k h => simp [chainW]
    | say t hf => have := isF_len hf; simp [sayW]; omega
    | times t hf => have := isF_len hf; simp [timesW']; omega
    | ifs t hf => have := isF_len hf; simp [ifW]; omega
    | nots => decide
    | basic => decide
    | back => decide
theorem itx_v (K N : Int) (T : List UInt8) (S : ByteArray) (h : bs (txD (K, N, T)) = S) (w : World) (hT : WdAt w) : Calls Tryz.prog 15 #[.agg #[.int .i64 K, .int .i64 N, .string (bs T)]] w fun e w' => e = .returned (.string S) ∧ w.grownBy w' none := by rw [← h]; exact itx_any (K, N, T) w hT
theorem stx_v (K N : Int) (T : List UInt8) (S : ByteArray) (h : bs (txD (K, N, T)) = S) (w : World) : Calls Tryz.prog 90 #[.agg #[.int .i64 K, .int .i64 N, .string (bs T)]] w fun e w' => e = .returned (.string S) ∧ w.grownBy w' none := by rw [← h]; exact stx_any (K, N, T) w
theorem ird_v (l : List UInt8) (v : Value) (h : rdV l = v) (w : World) (hT : WdAt w) (hE : ErAt w) (hl : l.length ≤ L48) : Calls Tryz.prog 44 #[.string (bs l)] w fun e w' => e = .returned v ∧ w.grownBy w' none := by rw [← h]; exact ird_any l w hT hE hl

end Go.Proofs.YtlnffpofbfigaaaGreatDoor

/-
  Rows of deeds counted, copied and compared: the laws' szDeedS, toDeedS, eqDeedS.
-/
namespace Go.Proofs.YtlnffpofbfigaaaGreatDoor
open Go.RowKit

theorem getDd_mem {xs : List Dd} {k : Nat} (h : k < xs.length) : xs.getD k nilDd ∈ xs := by
  rw [List.getD_eq_getElem?_getD, List.getElem?_eq_getElem h]
  exact List.getElem_mem h
/-- What szDeedS answers with: something below 0, or a number, few deeds and short texts. -/
def SzDPost (xs : List Dd) (w : World) (e : Ending) (w' : World) : Prop := ∃ v : Int, e = .returned (.int .i64 v) ∧ (v < 0 ∨ (0 ≤ v ∧ v ≤ 1048576 ∧ xs.length ≤ 1048576 ∧ ∀ x ∈ xs, x.2.2.length ≤ 1048576)) ∧ w.grownBy w' none
def SzDd (xs : List Dd) (w : World) (i left : Value) (wr : World) : Prop := ∃ (k : Nat) (l : Int), k ≤ xs.length ∧ i = .int .i64 k ∧ left = .int .i64 l ∧ 0 ≤ l ∧ l ≤ 1048576 ∧ (∀ j, j < k → (xs.getD j nilDd).2.2.length ≤ 1048576) ∧ w.grownBy wr none

def CpDd (g : Nat) (xs : List Dd) (w : World) (i : Value) (wr : World) : Prop :=
  ∃ (k : Nat) (vs : List Value), k ≤ xs.length ∧ i = .int .i64 k ∧ wr.ownsRow w.heap.size 40 3 (.slice (some ⟨g, 0, none⟩) xs.length xs.length) xs.length vs ∧ (∀ j, j < k → vs[j * 3]? = some (.int .i64 (xs.getD j nilDd).1) ∧ vs[j * 3 + 1]? = some (.int .i64 (xs.getD j nilDd).2.1) ∧ vs[j * 3 + 2]? = some (.string (bs (xs.getD j nilDd).2.2))) ∧ w.grownBy wr none
theorem own3_copied {g : Nat} {xs : List Dd} {w wr : World} {vs : List Value} (h : wr.ownsRow w.heap.size 40 3 (.slice (some ⟨g, 0, none⟩) xs.length xs.length) xs.length vs) (hx : ∀ j, j < xs.length → vs[j * 3]? = some (.int .i64 (xs.getD j nilDd).1) ∧ vs[j * 3 + 1]? = some (.int .i64 (xs.getD j nilDd).2.1) ∧ vs[j * 3 + 2]? = some (.string (bs (xs.getD j nilDd).2.2))) : Own3 wr w.heap.size (some ⟨g, 0, none⟩) xs.length xs := by
  have e : vs = ddC xs := by
    apply List.ext_getElem?
    intro j
    by_cases hj : j < xs.length * 3
    · have hk : j / 3 < xs.length := by omega
      have k1 := hx _ hk
      have k2 := ddC_at xs _ hk
      have hm : j % 3 = 0 ∨ j % 3 = 1 ∨ j % 3 = 2 := by omega
      rcases hm with q | q | q
      · rw [show j = j / 3 * 3 by omega, k1.1, k2.1]
      · rw [show j = j / 3 * 3 + 1 by omega, k1.2.1, k2.2.1]
      · rw [show j = j / 3 * 3 + 2 by omega, k1.2.2, k2.2.2]
    · rw [List.getElem?_eq_none (by rw [h.1]; omega), List.getElem?_eq_none (by rw [ddC_len]; omega)]
  unfold Own3
  rw [← e]
  exact h
theorem three_set {vs : List Value} {xs : List Dd} {k : Nat} (hl : vs.length = xs.length * 3) (hk : k < xs.length) (hxs : ∀ j, j < k → vs[j * 3]? = some (.int .i64 (xs.getD j nilDd).1) ∧ vs[j * 3 + 1]? = some (.int .i64 (xs.getD j nilDd).2.1) ∧ vs[j * 3 + 2]? = some (.string (bs (xs.getD j nilDd).2.2))) (m n : Int) (t : ByteArray) (hm : m = (xs.getD k nilDd).1) (hn : n = (xs.getD k nilDd).2.1) (ht : t = bs (xs.getD k nilDd).2.2) :
    ∀ j, j < k + 1 → (((vs.set (k * 3) (.int .i64 m)).set (k * 3 + 1) (.int .i64 n)).set (k * 3 + 2) (.string t))[j * 3]? = some (.int .i64 (xs.getD j nilDd).1) ∧ (((vs.set (k * 3) (.int .i64 m)).set (k * 3 + 1) (.int .i64 n)).set (k * 3 + 2) (.string t))[j * 3 + 1]? = some (.int .i64 (xs.getD j nilDd).2.1) ∧ (((vs.set (k * 3) (.int .i64 m)).set (k * 3 + 1) (.int .i64 n)).set (k * 3 + 2) (.string t))[j * 3 + 2]? = some (.string (bs (xs.getD j nilDd).2.2)) := by
  subst hm hn ht
  intro j hj
  by_cases e : j = k
  · subst e
    refine ⟨?_, ?_, ?_⟩
    · rw [List.getElem?_set_ne (by omega), List.getElem?_set_ne (by omega), List.getElem?_set_self (by omega)]
    · rw [List.getElem?_set_ne (by omega), List.getElem?_set_self (by rw [List.length_set]; omega)]
    · rw [List.getElem?_set_self (by rw [List.length_set, List.length_set]; omega)]
  · refine ⟨?_, ?_, ?_⟩
    · rw [List.getElem?_set_ne (by omega), List.getElem?_set_ne (by omega), List.getElem?_set_ne (by omega)]; exact (hxs j (by omega)).1
    · rw [List.getElem?_set_ne (by omega), List.getElem?_set_ne (by omega), List.getElem?_set_ne (by omega)]; exact (hxs j (by omega)).2.1
    · rw [List.getElem?_set_ne (by omega), List.getElem?_set_ne (by omega), List.getElem?_set_ne (by omega)]; exact (hxs j (by omega)).2.2

def EqRelD (xs : List Dd) (w : World) (i : Value) (wr : World) : Prop := ∃ k : Nat, k ≤ xs.length ∧ i = .int .i64 k ∧ w.grownBy wr none

end Go.Proofs.YtlnffpofbfigaaaGreatDoor

/-
  The draws of chapter 12: deeds.
-/
namespace Go.Proofs.YtlnffpofbfigaaaGreatDoor
open Go.RowKit

def DdsRel (w0 : World) (r P : Nat) (kv ov : Value) (wr : World) : Prop :=
  ∃ (j : Nat) (l : List Dd) (a : Option Addr) (cap : Nat), kv = .int .i64 j ∧ ov = .slice a l.length cap ∧ l.length + j ≤ 5 ∧ Own3 wr w0.heap.size a cap l ∧ (∃ g, a = some ⟨g, 0, none⟩) ∧ (∀ x ∈ l, x.2.2.length ≤ 100) ∧ Rd wr r (P + 501 - j * 100) ∧ w0.grownBy wr (some r)
def DdsDraw (r P : Nat) (w : World) (e : Ending) (w' : World) : Prop := ∃ (l : List Dd) (a : Option Addr) (cap : Nat), e = .returned (.slice a l.length cap) ∧ l.length ≤ 5 ∧ Own3 w' w.heap.size a cap l ∧ (∃ g, a = some ⟨g, 0, none⟩) ∧ (∀ x ∈ l, x.2.2.length ≤ 100) ∧ Rd w' r (P + 600) ∧ w.grownBy w' (some r)
theorem own3_more {w : World} {base : Nat} {v : Value} {xs : List Dd} {x : Dd} (h : w.ownsRow base 40 3 v (xs.length + 1) (ddC xs ++ ddC [x])) : ∃ a cap, v = .slice a (xs.length + 1) cap ∧ Own3 w base a cap (xs ++ [x]) := by
  rw [← ddC_app] at h
  obtain ⟨a, cap, e, hl, ho⟩ := own3_shape h
  have hx : (xs ++ [x]).length = xs.length + 1 := by simp
  rw [hx] at e
  exact ⟨a, cap, e, ho⟩
theorem ddC_news {W : World} {b : Nat} {D : Dd} (h : CellsAt W b #[.int .i64 D.1, .int .i64 D.2.1, .string (bs D.2.2)] 40) : ∀ j u, (ddC [D])[j]? = some u → W.cell? ((⟨b, 0, none⟩ : Addr).add j) = some u := by
  intro j u hu
  rw [add_none]
  match j, hu with
  | 0, hu => cases hu; exact h.cell rfl
  | 1, hu => cases hu; exact h.cell rfl
  | 2, hu => cases hu; exact h.cell rfl
theorem grown_own3 {w0 w w' : World} {r base : Nat} {a : Option Addr} {cap : Nat} {xs : List Dd} (g : w0.grownBy w (some r)) (o : Own3 w base a cap xs) (hb : w0.heap.size ≤ base) (hg : w.grownBy w' (Value.slice a xs.length cap).ownBlock) : w0.grownBy w' (some r) :=
  ⟨hg.os.trans g.os, hg.tape.trans g.tape, hg.output.trans g.output, Nat.le_trans g.size hg.size, fun k hk hn => (hg.block k (Nat.lt_of_lt_of_le hk g.size) (fun e => by have := World.ownsRow.lt o k e.symm; omega)).trans (g.block k hk hn)⟩
theorem rd_own3 {w w' : World} {r P base : Nat} {a : Option Addr} {cap : Nat} {xs : List Dd} (hr : Rd w r P) (o : Own3 w base a cap xs) (hb : r < base) (hg : w.grownBy w' (Value.slice a xs.length cap).ownBlock) : Rd w' r P :=
  hr.kept fun k hk => hg.block k (by have := hr.lt; omega) fun e => by have := World.ownsRow.lt o k e.symm; omega

theorem Own3.way {w : World} {base : Nat} {a : Option Addr} {cap : Nat} {zs : List Dd} (h : Own3 w base a cap zs) : (a = none ∧ zs = []) ∨ ∃ g, a = some ⟨g, 0, none⟩ := by
  rcases h.2 with ⟨h0, h1⟩ | ⟨g, c, cur, he, _⟩
  · simp only [Value.slice.injEq] at h0
    exact .inl ⟨h0.1, List.length_eq_zero_iff.1 h1⟩
  · simp only [Value.slice.injEq] at he
    exact .inr ⟨g, he.1⟩

set_option maxRecDepth 8000 in
set_option maxHeartbeats 4000000 in
theorem deeds_draw (w : World) (r P : Nat) (hr : Rd w r P) (hP : P ≤ 40000) :
    Calls Tryz.prog 48 #[.pointer (some ⟨r, 0, none⟩)] w (DdsDraw r P w) := by
  have hlt := hr.lt
  obtain ⟨i0, hi, hz0, hz1, hz2⟩ := info_parts infoDd
  have hr0 := hr.alloc (.cells #[] 40)
  go_enter Tryz.func48, Tryz.ntmps48
  go_wp2_with fail
  refine (pick_any _ _ _ _ hr0 (by omega)).mono ?_
  rintro e w1 ⟨j0, rfl, hj0, hj1, hr1, hg1⟩
  obtain ⟨j0, rfl⟩ := Int.eq_ofNat_of_zero_le hj0
  have hInit : Hid (DdsRel w r P (.int .i64 (j0 : Int)) (.slice (some ⟨w.heap.size, 0, none⟩) 0 0) w1) := ⟨j0, [], _, 0, rfl, rfl, by simp; omega, (Own3.made w).past hg1 hlt, ⟨_, rfl⟩, by simp, hr1.mono (by omega), grownBy_trans (World.grownBy_alloc _ _ _) hg1⟩
  clear hr0 hr1 hg1 hr
  go_wp2_with fail
  go_loopw [4, 3] (fun kv ov wr => DdsRel w r P kv ov wr) (fun kv _ _ => (intOf kv).toNat)
  case atStart => exact hInit.out
  case round =>
    obtain ⟨j, l, a, cap, rfl, rfl, hlj, ho, hsome, hl, hrr, hgw⟩ := hrel
    by_cases hz : j = 0
    · subst hz
      have R := Lib.hid (show Own3 wr w.heap.size a cap l ∧ (∀ x ∈ l, x.2.2.length ≤ 100) ∧ Rd wr r (P + 501 - 0 * 100) ∧ w.grownBy wr (some r) from ⟨ho, hl, hrr, hgw⟩)
      clear ho hl hrr hgw
      go_wp2_with fail
      go_ret
      exact ⟨l, a, cap, rfl, by omega, R.out.1, hsome, R.out.2.1, R.out.2.2.1.mono (by omega), R.out.2.2.2⟩
    · have HO := Lib.hid ho
      have HL := Lib.hid hl
      have HG := Lib.hid hgw
      have hpos : 0 < (j : Int) := by omega
      clear ho hl hgw
      go_wp2_with fail
      refine (deed_draw _ r (P + 501 - j * 100) hrr (by omega)).mono ?_
      rintro e wa ⟨D, rfl, hDl, hra, hga⟩
      have gX := World.grownBy_alloc wa (.cells #[.int .i64 D.1, .int .i64 D.2.1, .string (bs D.2.2)] 40) none
      have HA := Lib.hid ((HO.out.past hga hlt).kept gX)
      have HN := Lib.hid (CellsAt.new wa #[.int .i64 D.1, .int .i64 D.2.1, .string (bs D.2.2)] 40)
      have HR := Lib.hid (hra.grown gX)
      have G1 := Lib.hid (grownBy_trans (grownBy_trans HG.out hga) (grown_none gX))
      have hsz : w.heap.size ≤ (wa.alloc (.cells #[.int .i64 D.1, .int .i64 D.2.1, .string (bs D.2.2)] 40)).heap.size := G1.out.size
      clear hrr hra hga gX
      go_wp2_with (at_builtin; refine wpList_append_own _ rfl _ _ 24 rfl w.heap.size 40 i0 (.agg #[.int .i64 0, .int .i64 0, .string ⟨#[]⟩]) 3 32 Tryz.underlying24 hi hz0 hz1 hz2 rfl (by decide) _ _ _ rfl HA.out ⟨wa.heap.size, 0, none⟩ 1 1 (ddC [D]) rfl rfl (ddC_news HN.out) (ddC_one [D]) (by unfold maxLen; omega) (by omega) hsz ?_; intro v' w4 hown' hgrow _; obtain ⟨a4, cap4, rfl, ho4⟩ := own3_more hown'; have R4 := Lib.hid (rd_own3 HR.out HA.out hlt hgrow); have G4 := Lib.hid (grown_own3 G1.out HA.out (Nat.le_refl _) hgrow); clear hown' hgrow)
      go_roundw
      case rel => exact ⟨j - 1, l ++ [D], a4, cap4, by congr 1; omega, by simp, by simp; omega, ho4, ho4.way.resolve_left fun q => by simp at q, fun x hx => by
          rcases List.mem_append.1 hx with h | h
          · exact HL.out x h
          · rw [List.mem_singleton] at h; rw [h]; exact hDl, R4.out.mono (by omega), G4.out⟩
      case measure => simp [intOf]; omega

end Go.Proofs.YtlnffpofbfigaaaGreatDoor

/-
  A deed's text read, as the model reads it.
-/
namespace Go.Proofs.YtlnffpofbfigaaaGreatDoor
open Go.RowKit

theorem sct_any (l : List UInt8) (hl : l.length ≤ 2097152) (w : World) : Calls Tryz.prog 73 #[.string (bs l), .int .u8 32] w (ScPost 32 l w) := scut_any 32 l hl w
/-- What lies where while the model looks through its deeds. -/
def SrRel (l : List UInt8) (xs : List Dd) (w : World) (g0 : Nat) (kv : Value) (wr : World) : Prop := ∃ k : Nat, k ≤ xs.length ∧ kv = .int .i64 k ∧ (∀ j, j < k → txD (xs.getD j nilDd) ≠ l) ∧ CellsAt wr w.heap.size #[.int .i64 0, .int .i64 0, .string ⟨#[]⟩] 40 ∧ DdsAt wr (some ⟨g0, 0, none⟩) xs ∧ w.grownBy wr none
theorem all_none {l : List UInt8} {xs : List Dd} (h : ∀ j, j < xs.length → txD (xs.getD j nilDd) ≠ l) : ∀ a ∈ xs, txD a ≠ l := by
  intro a ha
  obtain ⟨j, hj, rfl⟩ := List.mem_iff_getElem.1 ha
  have := h j hj
  rwa [List.getD_eq_getElem?_getD, List.getElem?_eq_getElem hj] at this
theorem row_cells {w : World} {g k : Nat} {xs : List Dd} {K N : Int} {T : List UInt8} (h : DdsAt w (some ⟨g, 0, none⟩) xs) (hk : k < xs.length) (hq : xs.getD k nilDd = (K, N, T)) : w.cell? ⟨g, k * 3, none⟩ = some (.int .i64 K) ∧ w.cell? ⟨g, k * 3 + 1, none⟩ = some (.int .i64 N) ∧ w.cell? ⟨g, k * 3 + 2, none⟩ = some (.string (bs T)) := by
  rcases h.2 with h0 | ⟨b, off, ha, _, hc⟩
  · rw [h0] at hk; simp at hk
  · cases ha
    have := hc k hk
    rw [hq, Nat.zero_add] at this
    exact this
theorem cand_few {l : List UInt8} (h : (cutL 32 l).length ≠ 2) : candL l = cand3 := by
  unfold candL candT
  split
  · rename_i a b e; rw [e] at h; exact absurd rfl h
  · simp
theorem start_few {l : List UInt8} {w w1 : World} (hg : (w.alloc (.cells #[.int .i64 0, .int .i64 0, .string ⟨#[]⟩] 40)).grownBy w1 none) : SrRel l cand3 w w1.heap.size (.int .i64 0) (w1.alloc (.cells #[.int .i64 2, .int .i64 0, .string ⟨#[]⟩, .int .i64 5, .int .i64 0, .string ⟨#[]⟩, .int .i64 6, .int .i64 0, .string ⟨#[]⟩] 40)) :=
  have ga := World.grownBy_alloc w1 (.cells #[.int .i64 2, .int .i64 0, .string ⟨#[]⟩, .int .i64 5, .int .i64 0, .string ⟨#[]⟩, .int .i64 6, .int .i64 0, .string ⟨#[]⟩] 40) none
  ⟨0, by omega, rfl, fun j hj => absurd hj (by omega), ((CellsAt.new w _ _).grown hg).grown ga, Own3.at (base := w1.heap.size) (cap := 3) (World.ownsRow_lit (e := 40) (size := 3) w1 _ 3 (Nat.le_refl _) (by unfold maxLen; omega) rfl), grownBy_trans (grownBy_trans (World.grownBy_alloc _ _ none) hg) ga⟩

set_option maxRecDepth 8000 in
set_option maxHeartbeats 4000000 in
theorem srd_few (l : List UInt8) (hl : l.length ≤ 2097152) (h0 : l ≠ []) (hc : (cutL 32 l).length ≠ 2) (w : World) :
    Calls Tryz.prog 45 #[.string (bs l)] w (RdDPost l w) := by
  have cs := sct_any l hl
  have he := empty_bs h0
  unfold ScPost at cs
  have hc2 : (((cutL 32 l).length : Int) == 2) = false := beq_false_of_ne (by omega)
  have hcd := cand_few hc
  unfold RdDPost
  go_enter Tryz.func45, Tryz.ntmps45
  go_wp2_with (first | (go_at_call 73; refine (cs _).mono ?_; rintro e w1 ⟨a, cap, rfl, hS, hg⟩; have S0 := Lib.hid (start_few (l := l) hg)))
  obtain ⟨g0, hg0⟩ : ∃ g0, w1.heap.size = g0 := ⟨_, rfl⟩
  rw [hg0] at S0 ⊢
  generalize w1.alloc _ = W at *
  clear cs hc2 hg hS hg0 hc
  have SS := S0
  go_loopw [6] (fun kv wr => SrRel l cand3 w g0 kv wr) (fun kv _ => (cand3).length - (intOf kv).toNat)
  case atStart => exact SS.out
  case round =>
    obtain ⟨k, hk, rfl, hall, hB, hX, hgr⟩ := hrel
    have HB := Lib.hid hB
    have HX := Lib.hid hX
    have HG := Lib.hid hgr
    have HA := Lib.hid hall
    have hk3 : k ≤ 3 := hk
    by_cases hlt3 : k < 3
    · have hlt : k < (cand3).length := hlt3
      clear hX hB hgr hall
      generalize hq : (cand3).getD k nilDd = q at *
      obtain ⟨K, N, T⟩ := q
      obtain ⟨x0, x1, x2⟩ := row_cells HX.out hlt hq
      by_cases hx : txD (K, N, T) = l
      · have c2 := stx_v K N T _ (by rw [hx])
        have hr := rdV_some (cand_yes h0 hx)
        unfold ddV at hr
        go_wp2_with (first | (go_at_call 90; refine (c2 _).mono ?_; rintro e w3 ⟨rfl, g3⟩; have H3 := Lib.hid (HB.out.grown g3); obtain ⟨⟨y0, y1, y2⟩, z0, z1, z2⟩ := set_facts H3.out; obtain ⟨u0, u1, u2⟩ := row_cells (HX.out.grown g3) hlt hq))
        exact bodyPost_ret (v := .tuple #[.agg #[.int .i64 K, .int .i64 N, .string (bs T)], .bool true]) (resDdB rfl _ rfl rfl (H3.out.put3 _ _ _)) rfl ⟨by first | rfl | exact (congrArg Ending.returned hr).symm, put3_grown _ (grownBy_trans HG.out g3) (Nat.le_refl _) _ _ _⟩
      · have c2 := stx_v K N T _ rfl
        have hne := bs_ne hx
        rw [← toL_bs (txD (K, N, T))] at hne
        generalize bs (txD (K, N, T)) = X at *
        go_wp2_with (first | (go_at_call 90; refine (c2 _).mono ?_; rintro e w3 ⟨rfl, g3⟩))
        go_roundw
        case rel => exact ⟨k + 1, by omega, by go_num, fun j hj => by
          by_cases e : j = k
          · rw [e, hq]; exact hx
          · exact HA.out j (by omega), HB.out.grown g3, HX.out.grown g3, grownBy_trans HG.out g3⟩
        case measure => simp [intOf]; omega
    · obtain rfl : k = 3 := by omega
      have hr := rdV_none (cand_no (s := l) (.inr (by rw [hcd]; exact all_none HA.out)))
      unfold ddV nilDd at hr
      obtain ⟨⟨y0, y1, y2⟩, z0, z1, z2⟩ := set_facts HB.out
      clear hX hB hgr hall
      go_wp2
      exact bodyPost_ret (v := .tuple #[.agg #[.int .i64 0, .int .i64 0, .string ⟨#[]⟩], .bool false]) (resDdB rfl _ rfl rfl (HB.out.put3 _ _ _)) rfl ⟨by first | rfl | exact (congrArg Ending.returned hr).symm, put3_grown _ HG.out (Nat.le_refl _) _ _ _⟩

theorem cand_many {l A T : List UInt8} (h : cutL 32 l = [A, T]) : candL l = cand3 ++ [(0, digI T, []), (1, 0, T), (3, 0, T), (4, 0, T)] := by
  unfold candL; rw [h]; rfl
theorem news_dd {W : World} {b : Nat} {L : List Dd} (h : CellsAt W b (ddC L).toArray 40) : ∀ j u, (ddC L)[j]? = some u → W.drew.cell? ((⟨b, 0, none⟩ : Addr).add j) = some u := by
  intro j u hu
  rw [add_none, Nat.zero_add]
  exact h.cell (by rw [List.getElem?_toArray]; exact hu)
theorem grD_row {a b c : World} {g : Nat} (h : a.grownBy b none) (hb : a.heap.size ≤ g) (k : b.grownBy c (some g)) : a.grownBy c none :=
  ⟨k.os.trans h.os, k.tape.trans h.tape, k.output.trans h.output, Nat.le_trans h.size k.size, fun i hi hne => (k.block i (Nat.lt_of_lt_of_le hi h.size) (by simp; omega)).trans (h.block i hi hne)⟩
theorem start_many {l : List UInt8} {xs ys : List Dd} {w W W2 w3 : World} {g0 g9 : Nat} {kv : Value} (h : SrRel l xs w g0 kv W) (hd : DdsAt w3 (some ⟨g9, 0, none⟩) ys) (hgt : w.heap.size < g0) (hg : W.grownBy W2 none) (k : W2.grownBy w3 (some g0)) : SrRel l ys w g9 (.int .i64 0) w3 := by
  obtain ⟨_, _, _, _, hB, _, hgr⟩ := h
  exact ⟨0, by omega, rfl, fun j hj => absurd hj (by omega), (hB.grown hg).kept k (by simp; omega), hd, grD_row (grownBy_trans hgr hg) (by omega) k⟩
theorem cut_parts {l A T : List UInt8} {p : UInt8} (h : cutL p l = [A, T]) : T.length ≤ l.length := by
  have := cutL_join p l
  rw [h] at this
  have hl := congrArg List.length this
  simp [joinL] at hl
  omega
set_option maxRecDepth 8000 in
set_option maxHeartbeats 4000000 in
theorem srd_many (l A T : List UInt8) (hl : l.length ≤ 2097152) (h0 : l ≠ []) (hc : cutL 32 l = [A, T]) (w : World) :
    Calls Tryz.prog 45 #[.string (bs l)] w (RdDPost l w) := by
  have cs := sct_any l hl
  have he := empty_bs h0
  unfold ScPost at cs
  rw [hc] at cs
  have hcd := cand_many hc
  have cg := sdig_any T (Nat.le_trans (cut_parts hc) hl)
  obtain ⟨i0, hi, hz0, hz1, hz2⟩ := info_parts infoDd
  clear hc
  unfold RdDPost
  go_enter Tryz.func45, Tryz.ntmps45
  go_wp2_with fail
  refine (cs _).mono ?_
  rintro e w1 ⟨a, cap, rfl, hS, hg⟩
  have S0 := Lib.hid (start_few (l := l) hg)
  obtain ⟨g, rfl, hcx⟩ := hS.grown (World.grownBy_alloc w1 (.cells #[.int .i64 2, .int .i64 0, .string ⟨#[]⟩, .int .i64 5, .int .i64 0, .string ⟨#[]⟩, .int .i64 6, .int .i64 0, .string ⟨#[]⟩] 40) none)
  have t1 := hcx 1 (by simp)
  change _ = some (Value.string (bs T)) at t1
  have O0 := Lib.hid (show Own3 (w1.alloc (.cells #[.int .i64 2, .int .i64 0, .string ⟨#[]⟩, .int .i64 5, .int .i64 0, .string ⟨#[]⟩, .int .i64 6, .int .i64 0, .string ⟨#[]⟩] 40)) w1.heap.size (some ⟨w1.heap.size, 0, none⟩) 3 cand3 from World.ownsRow_lit (e := 40) (size := 3) w1 _ 3 (Nat.le_refl _) (by unfold maxLen; omega) rfl)
  have hgt : Hid (w.heap.size < w1.heap.size) := Lib.hid (by have := hg.size; simp at this; omega)
  clear hS hcx hg
  go_wp2_with fail
  obtain ⟨g0, hg0⟩ : ∃ g0, w1.heap.size = g0 := ⟨_, rfl⟩
  rw [hg0] at S0 O0 hgt ⊢
  have hlt0 : Hid (g0 < (w1.alloc (.cells #[.int .i64 2, .int .i64 0, .string ⟨#[]⟩, .int .i64 5, .int .i64 0, .string ⟨#[]⟩, .int .i64 6, .int .i64 0, .string ⟨#[]⟩] 40)).heap.size) := Lib.hid (by rw [← hg0]; simp)
  generalize w1.alloc _ = W at *
  clear cs hg0
  generalize digI T = V at *
  have HN := CellsAt.new W (ddC [(0, V, []), (1, 0, T), (3, 0, T), (4, 0, T)]).toArray 40
  have gx : W.grownBy (W.alloc (.cells (ddC [(0, V, []), (1, 0, T), (3, 0, T), (4, 0, T)]).toArray 40)).drew none := grownBy_drew (World.grownBy_alloc W _ none)
  obtain ⟨v', w3, hrun, hO, hgr, _⟩ := run_append_own (P := Tryz.prog) (w := (W.alloc (.cells (ddC [(0, V, []), (1, 0, T), (3, 0, T), (4, 0, T)]).toArray 40)).drew) g0 24 24 40 i0 (.agg #[.int .i64 0, .int .i64 0, .string ⟨#[]⟩]) 3 32 Tryz.underlying24 hi hz0 hz1 hz2 rfl (by decide) _ _ _ (O0.out.kept gx) ⟨W.heap.size, 0, none⟩ 4 4 (ddC [(0, V, []), (1, 0, T), (3, 0, T), (4, 0, T)]) rfl (news_dd HN) (ddC_one _) (by unfold maxLen; decide) (by decide) (by have := hlt0.out; have := gx.size; omega)
  rw [← ddC_app] at hO
  obtain ⟨a', cap', rfl, _, hO⟩ := own3_shape hO
  obtain ⟨g9, rfl⟩ := hO.way.resolve_left (by simp [cand3])
  have S9 := Lib.hid (start_many S0.out hO.at hgt.out (grownBy_trans gx (grownBy_refl _ _)) hgr)
  have hU2 := Lib.hid (show (W.alloc (.cells (ddC [(0, V, []), (1, 0, T), (3, 0, T), (4, 0, T)]).toArray 40)).drew.cell? ⟨g, 1, none⟩ = some (.string (bs T)) from (World.cell?_of_block (w := W) (gx.block _ (World.block_lt_of_cell? W _ t1) (by simp))).trans t1)
  have hgne : g ≠ g0 := fun e => by
    subst e
    have ho := World.ownsRow.cellAt (O0.out) 1 (by decide)
    rw [t1] at ho
    simp [cand3, ddC] at ho
  have hU3 := Lib.hid (show w3.cell? ⟨g, 1, none⟩ = some (.string (bs T)) from (World.cell?_of_block (hgr.block _ (World.block_lt_of_cell? _ _ hU2.out) (by simpa [Value.ownBlock] using hgne))).trans hU2.out)
  clear hO hgr HN gx hlt0 hgt S0 O0 hgne
  change (Builtin.append_ #[24, 24] 24 #[.slice (some ⟨g0, 0, none⟩) 3 3, .slice (some ⟨W.heap.size, 0, none⟩) 4 4]).run Tryz.prog (W.alloc (.cells #[.int .i64 0, .int .i64 V, .string ⟨#[]⟩, .int .i64 1, .int .i64 0, .string (bs T), .int .i64 3, .int .i64 0, .string (bs T), .int .i64 4, .int .i64 0, .string (bs T)] 40)).drew = .ok (.slice (some ⟨g9, 0, none⟩) 7 cap') w3 at hrun
  go_region_held_law (fun w' : World => w'.cell? ⟨g, 1, none⟩ = some (.string (bs T))) (first | exact t1 | exact hU2.out | exact hU3.out) (first | (go_at_call 76; refine (cg _).mono ?_; rintro e w2 ⟨rfl, rfl⟩) | (refine step_append_run (by rfl) _ _ _ (by rfl) (.slice (some ⟨g0, 0, none⟩) 3 3) (.slice (some ⟨W.heap.size, 0, none⟩) 4 4) (by rfl) (by rfl) (.slice (some ⟨g9, 0, none⟩) 7 cap') w3 hrun ?_))
  go_wp2_with fail
  have SS := S9
  clear hrun hO cg t1 hU2 hU3 S9
  go_loopw [6] (fun kv wr => SrRel l (cand3 ++ [(0, V, []), (1, 0, T), (3, 0, T), (4, 0, T)]) w g9 kv wr) (fun kv _ => ((cand3 ++ [(0, V, []), (1, 0, T), (3, 0, T), (4, 0, T)])).length - (intOf kv).toNat)
  case atStart => exact SS.out
  case round =>
    obtain ⟨k, hk, rfl, hall, hB, hX, hgr⟩ := hrel
    have HB := Lib.hid hB
    have HX := Lib.hid hX
    have HG := Lib.hid hgr
    have HA := Lib.hid hall
    have hk3 : k ≤ 7 := hk
    by_cases hlt3 : k < 7
    · have hlt : k < ((cand3 ++ [(0, V, []), (1, 0, T), (3, 0, T), (4, 0, T)])).length := hlt3
      clear hX hB hgr hall
      generalize hq : ((cand3 ++ [(0, V, []), (1, 0, T), (3, 0, T), (4, 0, T)])).getD k nilDd = q at *
      obtain ⟨K, N, T⟩ := q
      obtain ⟨x0, x1, x2⟩ := row_cells HX.out hlt hq
      by_cases hx : txD (K, N, T) = l
      · have c2 := stx_v K N T _ (by rw [hx])
        have hr := rdV_some (cand_yes h0 hx)
        unfold ddV at hr
        go_wp2_with (first | (go_at_call 90; refine (c2 _).mono ?_; rintro e w3 ⟨rfl, g3⟩; have H3 := Lib.hid (HB.out.grown g3); obtain ⟨⟨y0, y1, y2⟩, z0, z1, z2⟩ := set_facts H3.out; obtain ⟨u0, u1, u2⟩ := row_cells (HX.out.grown g3) hlt hq))
        exact bodyPost_ret (v := .tuple #[.agg #[.int .i64 K, .int .i64 N, .string (bs T)], .bool true]) (resDdB rfl _ rfl rfl (H3.out.put3 _ _ _)) rfl ⟨by first | rfl | exact (congrArg Ending.returned hr).symm, put3_grown _ (grownBy_trans HG.out g3) (Nat.le_refl _) _ _ _⟩
      · have c2 := stx_v K N T _ rfl
        have hne := bs_ne hx
        rw [← toL_bs (txD (K, N, T))] at hne
        generalize bs (txD (K, N, T)) = X at *
        go_wp2_with (first | (go_at_call 90; refine (c2 _).mono ?_; rintro e w3 ⟨rfl, g3⟩))
        go_roundw
        case rel => exact ⟨k + 1, by omega, by go_num, fun j hj => by
          by_cases e : j = k
          · rw [e, hq]; exact hx
          · exact HA.out j (by omega), HB.out.grown g3, HX.out.grown g3, grownBy_trans HG.out g3⟩
        case measure => simp [intOf]; omega
    · obtain rfl : k = 7 := by omega
      have hr := rdV_none (cand_no (s := l) (.inr (by rw [hcd]; exact all_none HA.out)))
      unfold ddV nilDd at hr
      obtain ⟨⟨y0, y1, y2⟩, z0, z1, z2⟩ := set_facts HB.out
      clear hX hB hgr hall
      go_wp2
      exact bodyPost_ret (v := .tuple #[.agg #[.int .i64 0, .int .i64 0, .string ⟨#[]⟩], .bool false]) (resDdB rfl _ rfl rfl (HB.out.put3 _ _ _)) rfl ⟨by first | rfl | exact (congrArg Ending.returned hr).symm, put3_grown _ HG.out (Nat.le_refl _) _ _ _⟩

set_option maxRecDepth 8000 in
set_option maxHeartbeats 4000000 in
theorem srd_nil (w : World) : Calls Tryz.prog 45 #[.string ⟨#[]⟩] w (RdDPost [] w) := by
  have cs := sct_any [] (by decide)
  unfold ScPost at cs
  have hr := rdV_none (cand_no (s := []) (.inl rfl))
  unfold ddV nilDd at hr
  unfold RdDPost
  rw [hr]
  go_enter Tryz.func45, Tryz.ntmps45
  go_wp2_with fail
  refine (cs _).mono ?_
  rintro e w1 ⟨a, cap, rfl, hS, hg⟩
  have S0 := Lib.hid (start_few (l := []) hg)
  clear hS cs
  have e1 : (cutL 32 []).length = 1 := rfl
  rw [e1]
  go_wp2_with fail
  obtain ⟨g0, hg0⟩ : ∃ g0, w1.heap.size = g0 := ⟨_, rfl⟩
  rw [hg0] at S0 ⊢
  generalize w1.alloc _ = W at *
  clear hg hg0
  go_loopw [6] (fun kv wr => (∃ k : Nat, k ≤ 3 ∧ kv = .int .i64 k) ∧ wr = W) (fun kv _ => 3 - (intOf kv).toNat)
  case atStart => exact ⟨⟨0, by omega, rfl⟩, rfl⟩
  case round =>
    obtain ⟨⟨k, hk, rfl⟩, rfl⟩ := hrel
    by_cases hlt : k < 3
    · go_wp2
      go_roundw
      case rel => exact ⟨⟨k + 1, by omega, by go_num⟩, by first | rfl | trivial⟩
      case measure => simp [intOf]; omega
    · obtain rfl : k = 3 := by omega
      have HB := Lib.hid S0.out.choose_spec.2.2.2.1
      have HG := Lib.hid S0.out.choose_spec.2.2.2.2.2
      obtain ⟨⟨y0, y1, y2⟩, z0, z1, z2⟩ := set_facts HB.out
      go_wp2
      exact bodyPost_ret (v := .tuple #[.agg #[.int .i64 0, .int .i64 0, .string ⟨#[]⟩], .bool false]) (resDdB rfl _ rfl rfl (HB.out.put3 _ _ _)) rfl ⟨rfl, put3_grown _ HG.out (Nat.le_refl _) _ _ _⟩
theorem srd_any (l : List UInt8) (hl : l.length ≤ 2097152) (w : World) : Calls Tryz.prog 45 #[.string (bs l)] w (RdDPost l w) := by
  by_cases h0 : l = []
  · subst h0; exact srd_nil w
  · by_cases hc : (cutL 32 l).length = 2
    · match hq : cutL 32 l, hc with
      | [A, T], _ => exact srd_many l A T hl h0 hq w
    · exact srd_few l hl h0 hc w

end Go.Proofs.YtlnffpofbfigaaaGreatDoor

/-
  The walk of FnExactReadDeed.
-/
namespace Go.Proofs.YtlnffpofbfigaaaGreatDoor
open Go.RowKit

theorem srd_v (l : List UInt8) (v : Value) (h : rdV l = v) (w : World) (hl : l.length ≤ 2097152) : Calls Tryz.prog 45 #[.string (bs l)] w fun e w' => e = .returned v ∧ w.grownBy w' none := by rw [← h]; exact srd_any l hl w
theorem rdV_ways (l : List UInt8) : ∃ (K N : Int) (T : List UInt8) (b : Bool), rdV l = .tuple #[.agg #[.int .i64 K, .int .i64 N, .string (bs T)], .bool b] := by
  cases h : rdD l with
  | none => exact ⟨0, 0, [], false, rdV_none h⟩
  | some a => exact ⟨a.1, a.2.1, a.2.2, true, rdV_some h⟩
end Go.Proofs.YtlnffpofbfigaaaGreatDoor

/-
  What a deed makes of a desk: impl's DeskDo.
-/
namespace Go.Proofs.YtlnffpofbfigaaaGreatDoor
open Go.RowKit

theorem do_post' {w w' : World} {base : Nat} {a : Option Addr} {r : Dk × Bool} {cap : Nat} {u v s : Value} {b : Bool} (hg : w.grownBy w' none) (ho : OwnL w' base a r.1.2) (hb : w.heap.size + 3 ≤ base) (h0 : a = none → cap = 0) (hu : u = .int .i64 r.1.1.1) (hv : v = .string (bs r.1.1.2)) (hs : s = .slice a r.1.2.length cap) (hr : b = r.2) :
    DoPost r w (.returned (.tuple #[.agg #[u, v, s], .bool b])) (((w'.setCell ⟨w.heap.size + 1 + 1, 0, none⟩ u).setCell ⟨w.heap.size + 1 + 1, 1, none⟩ v).setCell ⟨w.heap.size + 1 + 1, 2, none⟩ s) := by
  obtain ⟨⟨x, xs⟩, b'⟩ := r
  change b = b' at hr
  subst hr
  exact do_post hg (ho.mono hb) h0 hu hv hs

set_option maxRecDepth 8000 in
set_option maxHeartbeats 1000000 in
theorem ido_bad (x : Ld) (xs : List Ld) (dk dn : Int) (dt : List UInt8) (a : Option Addr) (cap : Nat) (w : World) (h : LdsAt w a xs) (hd : dkB (x, xs) = false) :
    Calls Tryz.prog 52 #[dkV (x, xs) a cap, ddV (dk, dn, dt)] w (DoPost (nilDk, false) w) := by
  have hb := box3_new w (x, xs) a cap dk dn (bs dt)
  have g3 := made3 w (.cells #[.int .i64 x.1, .string (bs x.2), .slice a xs.length cap] 32) (.cells #[.int .i64 dk, .int .i64 dn, .string (bs dt)] 40) (.cells zeroDk 32)
  have hz := size3 w (.cells #[.int .i64 x.1, .string (bs x.2), .slice a xs.length cap] 32) (.cells #[.int .i64 dk, .int .i64 dn, .string (bs dt)] 40) (.cells zeroDk 32)
  have ck := idesk_any (x, xs) a cap _ (h.grown g3)
  rw [hd] at ck
  have HB := Lib.hid hb
  have G3 := Lib.hid g3
  have HZ := Lib.hid hz
  clear h hb g3 hz
  unfold dkV at *
  unfold ddV
  go_enter Tryz.func52, Tryz.ntmps52
  go_wp2_with (first | (go_at_call 23; refine ck.mono ?_; rintro e w1 ⟨rfl, hg⟩; obtain ⟨⟨d0, d1, d2⟩, ⟨e0, e1, e2⟩, ⟨r0, r1, r2⟩, f0, f1, f2⟩ := (HB.out.grown hg).facts))
  have F := (HB.out.grown hg).2.2.put3 (.int .i64 0) (.string ⟨#[]⟩) (.slice none 0 0)
  have P := do_post (x := nilLd) (b := false) (u := .int .i64 0) (v := .string ⟨#[]⟩) (s := .slice none 0 0) (cap := 0) (xs := []) (grownBy_trans G3.out hg) (OwnL.nil _ _ none) (fun _ => rfl) rfl rfl rfl
  exact bodyPost_ret (v := .tuple #[.agg #[.int .i64 0, .string ⟨#[]⟩, .slice none 0 0], .bool false]) (resDkB (b := .bool false) rfl _ rfl rfl F) rfl P

set_option maxRecDepth 8000 in
set_option maxHeartbeats 1000000 in
theorem ido_names (x : Ld) (xs : List Ld) (dk dn : Int) (dt : List UInt8) (a : Option Addr) (cap : Nat) (w : World) (h : LdsAt w a xs) (h0 : a = none → cap = 0) (hd : dkB (x, xs) = true) (hn : namesB (dk, dn, dt) = false) :
    Calls Tryz.prog 52 #[dkV (x, xs) a cap, ddV (dk, dn, dt)] w (DoPost ((x, xs), false) w) := by
  have hl := (dkB_of hd).2.2
  change xs.length ≤ 8 at hl
  have hb := box3_new w (x, xs) a cap dk dn (bs dt)
  have g3 := made3 w (.cells #[.int .i64 x.1, .string (bs x.2), .slice a xs.length cap] 32) (.cells #[.int .i64 dk, .int .i64 dn, .string (bs dt)] 40) (.cells zeroDk 32)
  have hz := size3 w (.cells #[.int .i64 x.1, .string (bs x.2), .slice a xs.length cap] 32) (.cells #[.int .i64 dk, .int .i64 dn, .string (bs dt)] 40) (.cells zeroDk 32)
  have ck := idesk_any (x, xs) a cap _ (h.grown g3)
  rw [hd] at ck
  have HB := Lib.hid hb
  have G3 := Lib.hid g3
  have HZ := Lib.hid hz
  have cn := names_any (dk, dn, dt)
  rw [hn] at cn
  have cc := fun w1 (hg : World.grownBy _ w1 none) => copied_any (x, xs) a cap w1 ((h.grown g3).grown hg) h0 (by show xs.length ≤ 9; omega)
  clear h hb g3 hz h0 hd hn
  unfold dkV at *
  unfold ddV at *
  go_enter Tryz.func52, Tryz.ntmps52
  go_wp2_with (first | (go_at_call 23; refine ck.mono ?_; rintro e w1 ⟨rfl, hg⟩; obtain ⟨⟨d0, d1, d2⟩, ⟨e0, e1, e2⟩, ⟨r0, r1, r2⟩, f0, f1, f2⟩ := (HB.out.grown hg).facts) | (go_at_call 53; refine (cn _).mono ?_; rintro e w2 ⟨rfl, hg2⟩; obtain ⟨⟨d0, d1, d2⟩, ⟨e0, e1, e2⟩, ⟨r0, r1, r2⟩, f0, f1, f2⟩ := ((HB.out.grown hg).grown hg2).facts) | (go_at_call 50; refine (cc _ (grownBy_trans hg hg2)).mono ?_; rintro e w3 ⟨a', cap', rfl, ho, hg3⟩; obtain ⟨⟨d0, d1, d2⟩, ⟨e0, e1, e2⟩, ⟨r0, r1, r2⟩, f0, f1, f2⟩ := (((HB.out.grown hg).grown hg2).grown hg3).facts))
  have F := (((HB.out.grown hg).grown hg2).grown hg3).2.2.put3 (.int .i64 x.1) (.string (bs x.2)) (.slice a' xs.length cap')
  have P := do_post (x := x) (xs := xs) (b := false) (grownBy_trans (grownBy_trans (grownBy_trans G3.out hg) hg2) hg3) (ho.l.mono (by have := hg.size; have := hg2.size; have := HZ.out; omega)) ho.bare rfl rfl rfl
  exact bodyPost_ret (v := .tuple #[.agg #[.int .i64 x.1, .string (bs x.2), .slice a' xs.length cap'], .bool false]) (resDkB (b := .bool false) rfl _ rfl rfl F) rfl P

set_option maxRecDepth 8000 in
set_option maxHeartbeats 1000000 in
theorem ido_back (x : Ld) (xs : List Ld) (dk dn : Int) (dt : List UInt8) (a : Option Addr) (cap : Nat) (w : World) (h : LdsAt w a xs) (r : Dk × Bool) (hk : dk = 6) (hd : dkB (x, xs) = true) (hn : namesB (dk, dn, dt) = true)
    (cb : ∀ w1, LdsAt w1 a xs → Calls Tryz.prog 101 #[.agg #[.int .i64 x.1, .string (bs x.2), .slice a xs.length cap]] w1 (DoPost r w1)) :
    Calls Tryz.prog 52 #[dkV (x, xs) a cap, ddV (dk, dn, dt)] w (DoPost r w) := by
  have hb := box3_new w (x, xs) a cap dk dn (bs dt)
  have g3 := made3 w (.cells #[.int .i64 x.1, .string (bs x.2), .slice a xs.length cap] 32) (.cells #[.int .i64 dk, .int .i64 dn, .string (bs dt)] 40) (.cells zeroDk 32)
  have hz := size3 w (.cells #[.int .i64 x.1, .string (bs x.2), .slice a xs.length cap] 32) (.cells #[.int .i64 dk, .int .i64 dn, .string (bs dt)] 40) (.cells zeroDk 32)
  have ck := idesk_any (x, xs) a cap _ (h.grown g3)
  rw [hd] at ck
  have HB := Lib.hid hb
  have G3 := Lib.hid g3
  have HZ := Lib.hid hz
  have cn := names_any (dk, dn, dt)
  rw [hn] at cn
  have cc := fun w1 (hg : World.grownBy _ w1 none) => cb w1 ((h.grown g3).grown hg)
  clear h hb g3 hz hd hn cb
  subst hk
  unfold dkV at *
  unfold ddV at *
  obtain ⟨⟨⟨rm, rs⟩, rl⟩, rb⟩ := r
  unfold DoPost dkV at cc
  go_enter Tryz.func52, Tryz.ntmps52
  go_wp2_with (first | (go_at_call 23; refine ck.mono ?_; rintro e w1 ⟨rfl, hg⟩; obtain ⟨⟨d0, d1, d2⟩, ⟨e0, e1, e2⟩, ⟨r0, r1, r2⟩, f0, f1, f2⟩ := (HB.out.grown hg).facts) | (go_at_call 53; refine (cn _).mono ?_; rintro e w2 ⟨rfl, hg2⟩; obtain ⟨⟨d0, d1, d2⟩, ⟨e0, e1, e2⟩, ⟨r0, r1, r2⟩, f0, f1, f2⟩ := ((HB.out.grown hg).grown hg2).facts) | (go_at_call 101; refine (cc _ (grownBy_trans hg hg2)).mono ?_; rintro e w3 ⟨a', cap', rfl, ho, h0', hg3⟩; obtain ⟨⟨d0, d1, d2⟩, ⟨e0, e1, e2⟩, ⟨r0, r1, r2⟩, f0, f1, f2⟩ := (((HB.out.grown hg).grown hg2).grown hg3).facts))
  have F := (((HB.out.grown hg).grown hg2).grown hg3).2.2.put3 (.int .i64 rm) (.string (bs rs)) (.slice a' rl.length cap')
  have P := do_post (x := (rm, rs)) (xs := rl) (b := rb) (grownBy_trans (grownBy_trans (grownBy_trans G3.out hg) hg2) hg3) (ho.mono (by have := hg.size; have := hg2.size; have := HZ.out; omega)) h0' rfl rfl rfl
  exact bodyPost_ret (v := .tuple #[.agg #[.int .i64 rm, .string (bs rs), .slice a' rl.length cap'], .bool rb]) (resDkB (b := .bool rb) rfl _ rfl rfl F) rfl P

set_option maxRecDepth 8000 in
set_option maxHeartbeats 1000000 in
theorem ido_lay (x : Ld) (xs : List Ld) (dk dn : Int) (dt : List UInt8) (a : Option Addr) (cap : Nat) (w : World) (h : LdsAt w a xs) (h0 : a = none → cap = 0) (hk : dk ≠ 6) (hd : dkB (x, xs) = true) (hn : namesB (dk, dn, dt) = true) (ht : dt.length ≤ 4000000) (y : Ld) (hy : y = aft x (dk, dn, dt)) (r : Dk × Bool) (hr : r = if ldB y = true ∧ y ≠ x then ((y, capP (xs ++ [x])), true) else ((x, xs), false)) :
    Calls Tryz.prog 52 #[dkV (x, xs) a cap, ddV (dk, dn, dt)] w (DoPost r w) := by
  have hl := (dkB_of hd).2.2
  have hx : x.2.length ≤ 60 := isF_len (ldB_of (dkB_of hd).2.1).2
  change xs.length ≤ 8 at hl
  have hb := box3_new w (x, xs) a cap dk dn (bs dt)
  have g3 := made3 w (.cells #[.int .i64 x.1, .string (bs x.2), .slice a xs.length cap] 32) (.cells #[.int .i64 dk, .int .i64 dn, .string (bs dt)] 40) (.cells zeroDk 32)
  have hz := size3 w (.cells #[.int .i64 x.1, .string (bs x.2), .slice a xs.length cap] 32) (.cells #[.int .i64 dk, .int .i64 dn, .string (bs dt)] 40) (.cells zeroDk 32)
  have ck := idesk_any (x, xs) a cap _ (h.grown g3)
  rw [hd] at ck
  have HB := Lib.hid hb
  have G3 := Lib.hid g3
  have HZ := Lib.hid hz
  have cn := names_any (dk, dn, dt)
  rw [hn] at cn
  have ca := aft_any x (dk, dn, dt) hx ht
  unfold AftPost at ca
  rw [← hy] at ca
  have cc := fun w1 (hg : World.grownBy _ w1 none) => lay_any x y xs a cap w1 ((h.grown g3).grown hg) h0 hl
  rw [← hr] at cc
  have hk6 : (dk == 6) = false := beq_false_of_ne hk
  clear h hb g3 hz hd hn hk hx ht hy hr h0
  unfold dkV at *
  unfold ddV at *
  unfold ldV at *
  obtain ⟨m, s⟩ := x
  obtain ⟨k, u⟩ := y
  obtain ⟨⟨⟨rm, rs⟩, rl⟩, rb⟩ := r
  unfold DoPost dkV at cc
  go_enter Tryz.func52, Tryz.ntmps52
  go_wp2_with (first | (go_at_call 23; refine ck.mono ?_; rintro e w1 ⟨rfl, hg⟩; obtain ⟨⟨d0, d1, d2⟩, ⟨e0, e1, e2⟩, ⟨r0, r1, r2⟩, f0, f1, f2⟩ := (HB.out.grown hg).facts) | (go_at_call 53; refine (cn _).mono ?_; rintro e w2 ⟨rfl, hg2⟩; obtain ⟨⟨d0, d1, d2⟩, ⟨e0, e1, e2⟩, ⟨r0, r1, r2⟩, f0, f1, f2⟩ := ((HB.out.grown hg).grown hg2).facts))
  have W2 := Lib.hid ((HB.out.grown hg).grown hg2)
  have CC : ∀ w3, w2.grownBy w3 none → _ := fun w3 hg3 => cc w3 (grownBy_trans (grownBy_trans hg hg2) hg3)
  have g02 := Lib.hid (grownBy_trans (grownBy_trans G3.out hg) hg2)
  have hs2 := Lib.hid (show w.heap.size + 3 ≤ w2.heap.size by have := hg.size; have := hg2.size; have := HZ.out; omega)
  clear cc hg hg2
  go_region_with (first | (go_at_call 103; refine (ca _).mono ?_; rintro e w3 ⟨rfl, hg3⟩; obtain ⟨⟨d0, d1, d2⟩, ⟨e0, e1, e2⟩, ⟨r0, r1, r2⟩, f0, f1, f2⟩ := (W2.out.grown (drew_grown hg3)).facts) | (go_at_call 102; refine (CC _ (drew_grown hg3)).mono ?_; rintro e w4 ⟨a', cap', rfl, ho, h0', hg4⟩; obtain ⟨⟨d0, d1, d2⟩, ⟨e0, e1, e2⟩, ⟨r0, r1, r2⟩, f0, f1, f2⟩ := ((W2.out.grown (drew_grown hg3)).grown hg4).facts))
  all_goals go_wp2
  all_goals
    have F := ((W2.out.grown (drew_grown hg3)).grown hg4).2.2.put3 (.int .i64 rm) (.string (bs rs)) (.slice a' rl.length cap')
    have P := do_post (x := (rm, rs)) (xs := rl) (b := rb) (grownBy_trans (grownBy_trans g02.out (drew_grown hg3)) hg4) (ho.mono (by have := hs2.out; have := (drew_grown hg3).size; omega)) h0' rfl rfl rfl
    exact bodyPost_ret (v := .tuple #[.agg #[.int .i64 rm, .string (bs rs), .slice a' rl.length cap'], .bool rb]) (resDkB (b := .bool rb) rfl _ rfl rfl F) rfl P

/-- What a deed makes of any desk. -/
theorem ido_any (d : Dk) (D : Dd) (a : Option Addr) (cap : Nat) (w : World) (h : LdsAt w a d.2) (h0 : a = none → cap = 0) (ht : D.2.2.length ≤ 4000000) :
    Calls Tryz.prog 52 #[dkV d a cap, ddV D] w (DoPost (doR d D) w) := by
  obtain ⟨x, xs⟩ := d
  obtain ⟨k, n, t⟩ := D
  cases hd : dkB (x, xs)
  · rw [doR_no hd]; exact ido_bad x xs k n t a cap w h hd
  have hl := (dkB_of hd).2.2
  change xs.length ≤ 8 at hl
  cases hn : namesB (k, n, t)
  · obtain ⟨h6, hw⟩ := names_no (x := x) hn
    rw [doR_none hd (doD_none (d := (x, xs)) h6 hw)]
    exact ido_names x xs k n t a cap w h h0 hd hn
  by_cases h6 : k = 6
  · have hD : ((k, n, t) : Dd) = (6, 0, []) := by
      subst h6
      unfold namesB at hn
      simp at hn
      rw [hn.1, hn.2]
    have hr : doR (x, xs) (k, n, t) = doR (x, xs) (6, 0, []) := by rw [hD]
    rw [hr]
    refine ido_back x xs k n t a cap w h _ h6 hd hn fun w1 hw1 => ?_
    obtain ⟨m, s⟩ := x
    cases hp : xs.getLast? with
    | some p =>
      rw [doR_some hd (doD_back (d := ((m, s), xs)) hp)]
      obtain ⟨ys, rfl⟩ : ∃ ys, xs = ys ++ [p] := List.getLast?_eq_some_iff.1 hp
      have hL : (ys ++ [p]).length = ys.length + 1 := by simp
      show Calls _ _ _ _ (DoPost ((p, (ys ++ [p]).dropLast), true) w1)
      rw [List.dropLast_concat, hL]
      exact back_some m s p ys a cap w1 hw1 h0 (by omega)
    | none =>
      have hx0 : xs = [] := List.getLast?_eq_none_iff.1 hp
      rw [doR_none hd (doD_back0 (d := ((m, s), xs)) hx0)]
      subst hx0
      exact back_none m s a cap w1 h0
  · refine ido_lay x xs k n t a cap w h h0 h6 hd hn ht _ rfl _ ?_
    have e := aft_new (x := x) (a := (k, n, t)) (dkB_of hd).2.1 hn h6
    have hne : ((k, n, t) : Dd) ≠ (6, 0, []) := fun q => h6 (congrArg Prod.fst q)
    by_cases hc : ldB (aft x (k, n, t)) = true ∧ aft x (k, n, t) ≠ x
    · rw [if_pos hc] at e
      rw [if_pos hc, doR_some hd (doD_new (d := (x, xs)) hne e)]
    · rw [if_neg hc] at e
      rw [if_neg hc, doR_none hd (doD_none (d := (x, xs)) hne e)]

end Go.Proofs.YtlnffpofbfigaaaGreatDoor

/-
  Deeds one after the other: DeskRun, the program's and the model's.
-/
namespace Go.Proofs.YtlnffpofbfigaaaGreatDoor
open Go.RowKit

def runR (d : Dk) (l : List Dd) : Dk × Nat := if dkB d = true ∧ l.length ≤ 40 then runD d l else (nilDk, 0)
def RunPost (r : Dk × Nat) (w : World) (e : Ending) (w' : World) : Prop := ∃ a cap, e = .returned (.tuple #[dkV r.1 a cap, .int .i64 (r.2 : Int)]) ∧ OwnL w' w.heap.size a r.1.2 ∧ (a = none → cap = 0) ∧ w.grownBy w' none

theorem dds_next {l : List Dd} {i : Nat} (hi : i < l.length) : l.take (i + 1) = l.take i ++ [l.getD i nilDd] := by
  rw [List.take_succ_eq_append_getElem hi, List.getD_eq_getElem?_getD, List.getElem?_eq_getElem hi]; rfl
theorem run_step {d e : Dk} {l : List Dd} {i n : Nat} (hi : i < l.length) (h : runD d (l.take i) = (e, n)) (he : dkB e = true) {f : Dk} {ok : Bool} (hr : doR e (l.getD i nilDd) = (f, ok)) : runD d (l.take (i + 1)) = (f, cond ok (n + 1) n) ∧ dkB f = true ∧ (ok = false → f = e) := by
  rw [dds_next hi]
  cases hq : doD e (l.getD i nilDd) with
  | none =>
    rw [doR_none he hq] at hr
    cases hr
    refine ⟨?_, he, fun _ => rfl⟩
    rw [run_snoc_no (by rw [h]; exact hq), h]; rfl
  | some g =>
    rw [doR_some he hq] at hr
    cases hr
    refine ⟨?_, do_ok he hq, fun h => by cases h⟩
    rw [run_snoc_yes (by rw [h]; exact hq), h]; rfl

theorem OwnL.put3 {W : World} {base b : Nat} {a : Option Addr} {xs : List Ld} (o : OwnL W base a xs) (hB : DkB W b) (p q t : Value) : OwnL (((W.setCell ⟨b, 0, none⟩ p).setCell ⟨b, 1, none⟩ q).setCell ⟨b, 2, none⟩ t) base a xs := o.beside hB (put3_past W b p q t)
theorem dk_facts {W : World} {b : Nat} {u v x : Value} (h : CellsAt W b #[u, v, x] 32) : (W.cell? ⟨b, 0, none⟩ = some u ∧ W.cell? ⟨b, 1, none⟩ = some v ∧ W.cell? ⟨b, 2, none⟩ = some x) ∧ W.frozen? ⟨b, 0, none⟩ = false ∧ W.frozen? ⟨b, 1, none⟩ = false ∧ W.frozen? ⟨b, 2, none⟩ = false := ⟨h.three, h.frozen 0, h.frozen 1, h.frozen 2⟩

theorem zero_1 {W W' : World} (hg : (W.alloc (.cells #[.int .i64 0, .string ⟨#[]⟩, .slice none 0 0] 32)).grownBy W' none) : CellsAt W' W.heap.size #[.int .i64 0, .string ⟨#[]⟩, .slice none 0 0] 32 := (CellsAt.new W _ _).grown hg
theorem lastS7 {a b c d e f g : Prop} (h : a ∧ b ∧ c ∧ d ∧ e ∧ f ∧ g) : g := h.2.2.2.2.2.2
theorem sizeS7 {a b c d e f : Prop} {W W' : World} {row : Option Nat} (h : a ∧ b ∧ c ∧ d ∧ e ∧ f ∧ W.grownBy W' row) : W.heap.size ≤ W'.heap.size := h.2.2.2.2.2.2.size
/-- A variable with the desk that was answered. -/
def GotZ (W : World) (m : Int) (s : List UInt8) (xs : List Ld) (ok : Bool) (p v : Value) (wc : World) : Prop :=
  ∃ (b : Nat) (a : Option Addr) (cap : Nat), p = .pointer (some ⟨b, 0, none⟩) ∧ v = .bool ok ∧ W.heap.size ≤ b ∧ CellsAt wc b #[.int .i64 m, .string (bs s), .slice a xs.length cap] 32 ∧ OwnL wc W.heap.size a xs ∧ (a = none → cap = 0) ∧ W.grownBy wc none
theorem gotZ_new {W wc : World} {m : Int} {s : List UInt8} {xs : List Ld} {ok : Bool} {a : Option Addr} {cap base : Nat} (ho : OwnL wc base a xs) (hz : a = none → cap = 0) (hb : W.heap.size ≤ base) (hg : W.grownBy wc none) :
    GotZ W m s xs ok (.pointer (some ⟨wc.heap.size, 0, none⟩)) (.bool ok) (wc.alloc (.cells #[.int .i64 m, .string (bs s), .slice a xs.length cap] 32)) :=
  ⟨_, a, cap, rfl, rfl, hg.size, CellsAt.new wc _ _, (ho.kept (World.grownBy_alloc _ _ none)).mono hb, hz, grownBy_trans hg (World.grownBy_alloc _ _ none)⟩
theorem gotZ_old {W wc : World} {m : Int} {s : List UInt8} {xs : List Ld} {ok : Bool} {a : Option Addr} {cap base b : Nat} {x y z : Value} (ho : OwnL wc base a xs) (hz : a = none → cap = 0) (hb : W.heap.size ≤ base) (hg : W.grownBy wc none) (hB : CellsAt wc b #[x, y, z] 32) (hw : W.heap.size ≤ b) :
    GotZ W m s xs ok (.pointer (some ⟨b, 0, none⟩)) (.bool ok) (((wc.setCell ⟨b, 0, none⟩ (.int .i64 m)).setCell ⟨b, 1, none⟩ (.string (bs s))).setCell ⟨b, 2, none⟩ (.slice a xs.length cap)) :=
  ⟨b, a, cap, rfl, rfl, hw, hB.put3 _ _ _, (ho.beside ⟨_, hB⟩ (put3_past wc b _ _ _)).mono hb, hz, put3_grown b hg hw _ _ _⟩

/-- A variable with a desk that was answered, and a value beside it. -/
def GotV (W : World) (m : Int) (s : List UInt8) (xs : List Ld) (v0 p v : Value) (wc : World) : Prop :=
  ∃ (b : Nat) (a : Option Addr) (cap : Nat), p = .pointer (some ⟨b, 0, none⟩) ∧ v = v0 ∧ W.heap.size ≤ b ∧ CellsAt wc b #[.int .i64 m, .string (bs s), .slice a xs.length cap] 32 ∧ OwnL wc W.heap.size a xs ∧ (a = none → cap = 0) ∧ W.grownBy wc none
theorem gotV_new {W wc : World} {m : Int} {s : List UInt8} {xs : List Ld} {v0 : Value} {a : Option Addr} {cap base : Nat} (ho : OwnL wc base a xs) (hz : a = none → cap = 0) (hb : W.heap.size ≤ base) (hg : W.grownBy wc none) :
    GotV W m s xs v0 (.pointer (some ⟨wc.heap.size, 0, none⟩)) v0 (wc.alloc (.cells #[.int .i64 m, .string (bs s), .slice a xs.length cap] 32)) :=
  ⟨_, a, cap, rfl, rfl, hg.size, CellsAt.new wc _ _, (ho.kept (World.grownBy_alloc _ _ none)).mono hb, hz, grownBy_trans hg (World.grownBy_alloc _ _ none)⟩
theorem gotV_old {W wc : World} {m : Int} {s : List UInt8} {xs : List Ld} {v0 : Value} {a : Option Addr} {cap base b : Nat} {x y z : Value} (ho : OwnL wc base a xs) (hz : a = none → cap = 0) (hb : W.heap.size ≤ base) (hg : W.grownBy wc none) (hB : CellsAt wc b #[x, y, z] 32) (hw : W.heap.size ≤ b) :
    GotV W m s xs v0 (.pointer (some ⟨b, 0, none⟩)) v0 (((wc.setCell ⟨b, 0, none⟩ (.int .i64 m)).setCell ⟨b, 1, none⟩ (.string (bs s))).setCell ⟨b, 2, none⟩ (.slice a xs.length cap)) :=
  ⟨b, a, cap, rfl, rfl, hw, hB.put3 _ _ _, (ho.beside ⟨_, hB⟩ (put3_past wc b _ _ _)).mono hb, hz, put3_grown b hg hw _ _ _⟩
theorem lastS4 {a b c d : Prop} (h : a ∧ b ∧ c ∧ d) : d := h.2.2.2
theorem sizeS4 {a b c : Prop} {W W' : World} {row : Option Nat} (h : a ∧ b ∧ c ∧ W.grownBy W' row) : W.heap.size ≤ W'.heap.size := h.2.2.2.size

/-- The desk between the deeds. -/
def RunI (w0 : World) (b : Nat) (d : Dk) (l : List Dd) (iv nv : Value) (wr : World) : Prop :=
  ∃ (i n : Nat) (e : Dk) (a : Option Addr) (cap : Nat), i ≤ l.length ∧ iv = .int .i64 i ∧ nv = .int .i64 n ∧ n ≤ i ∧ runD d (l.take i) = (e, n) ∧ dkB e = true ∧ CellsAt wr b #[.int .i64 e.1.1, .string (bs e.1.2), .slice a e.2.length cap] 32 ∧ OwnL wr w0.heap.size a e.2 ∧ (a = none → cap = 0) ∧ CellsAt wr (w0.heap.size + 1) #[.int .i64 0, .string ⟨#[]⟩, .slice none 0 0] 32 ∧ w0.grownBy wr none ∧ w0.heap.size + 1 < b
theorem run_post0 {w w' : World} (hg : w.grownBy w' none) : RunPost (nilDk, 0) w (.returned (.tuple #[.agg #[.int .i64 0, .string ⟨#[]⟩, .slice none 0 0], .int .i64 0])) (((w'.setCell ⟨w.heap.size + 1, 0, none⟩ (.int .i64 0)).setCell ⟨w.heap.size + 1, 1, none⟩ (.string ⟨#[]⟩)).setCell ⟨w.heap.size + 1, 2, none⟩ (.slice none 0 0)) :=
  ⟨none, 0, rfl, OwnL.nil _ _ _, fun _ => rfl, put3_grown _ hg (by omega) _ _ _⟩

set_option maxRecDepth 8000 in
set_option maxHeartbeats 2000000 in
theorem irun_bad (m : Int) (s : List UInt8) (xs : List Ld) (l : List Dd) (a b : Option Addr) (cap capb : Nat) (w : World) (h : LdsAt w a xs) (hd : dkB ((m, s), xs) = false ∨ (dkB ((m, s), xs) = true ∧ 40 < l.length)) :
    Calls Tryz.prog 16 #[.agg #[.int .i64 m, .string (bs s), .slice a xs.length cap], .slice b l.length capb] w (RunPost (nilDk, 0) w) := by
  have g2 : w.grownBy ((w.alloc (.cells #[.int .i64 m, .string (bs s), .slice a xs.length cap] 32)).alloc (.cells #[.int .i64 0, .string ⟨#[]⟩, .slice none 0 0] 32)) none := grownBy_trans (World.grownBy_alloc w _ none) (World.grownBy_alloc _ _ none)
  have hZ := Lib.hid (CellsAt.second w (.cells #[.int .i64 m, .string (bs s), .slice a xs.length cap] 32) #[.int .i64 0, .string ⟨#[]⟩, .slice none 0 0] 32)
  have ck := idesk_any ((m, s), xs) a cap _ (h.grown g2)
  have G2 := Lib.hid g2
  clear h g2
  unfold dkV at ck
  rcases hd with hd | ⟨hd, hl⟩
  · rw [hd] at ck
    go_enter Tryz.func16, Tryz.ntmps16
    go_wp2_with (first | (go_at_call 23; refine ck.mono ?_; rintro e w1 ⟨rfl, hg⟩; obtain ⟨⟨z0, z1, z2⟩, f0, f1, f2⟩ := dk_facts (hZ.out.grown hg)))
    exact bodyPost_ret (v := .tuple #[.agg #[.int .i64 0, .string ⟨#[]⟩, .slice none 0 0], .int .i64 0]) (resDkB (b := .int .i64 0) rfl _ rfl rfl ((hZ.out.grown hg).put3 _ _ _)) rfl (run_post0 (grownBy_trans G2.out hg))
  · rw [hd] at ck
    have hll : (40 : Int) < (l.length : Int) := by omega
    go_enter Tryz.func16, Tryz.ntmps16
    go_wp2_with (first | (go_at_call 23; refine ck.mono ?_; rintro e w1 ⟨rfl, hg⟩; obtain ⟨⟨z0, z1, z2⟩, f0, f1, f2⟩ := dk_facts (hZ.out.grown hg)))
    exact bodyPost_ret (v := .tuple #[.agg #[.int .i64 0, .string ⟨#[]⟩, .slice none 0 0], .int .i64 0]) (resDkB (b := .int .i64 0) rfl _ rfl rfl ((hZ.out.grown hg).put3 _ _ _)) rfl (run_post0 (grownBy_trans G2.out hg))

set_option maxRecDepth 8000 in
set_option maxHeartbeats 8000000 in
theorem irun_ok (m : Int) (s : List UInt8) (xs : List Ld) (l : List Dd) (a b : Option Addr) (cap capb : Nat) (w : World) (h : LdsAt w a xs) (h0 : a = none → cap = 0) (hl : DdsAt w b l) (ht : ∀ x ∈ l, x.2.2.length ≤ 4000000) (hd : dkB ((m, s), xs) = true) (hn : l.length ≤ 40) :
    Calls Tryz.prog 16 #[.agg #[.int .i64 m, .string (bs s), .slice a xs.length cap], .slice b l.length capb] w (RunPost (runD ((m, s), xs) l) w) := by
  have g2 : w.grownBy ((w.alloc (.cells #[.int .i64 m, .string (bs s), .slice a xs.length cap] 32)).alloc (.cells #[.int .i64 0, .string ⟨#[]⟩, .slice none 0 0] 32)) none := grownBy_trans (World.grownBy_alloc w _ none) (World.grownBy_alloc _ _ none)
  have hZ := Lib.hid (CellsAt.second w (.cells #[.int .i64 m, .string (bs s), .slice a xs.length cap] 32) #[.int .i64 0, .string ⟨#[]⟩, .slice none 0 0] 32)
  have hD := Lib.hid (CellsAt.first w (.cells #[.int .i64 0, .string ⟨#[]⟩, .slice none 0 0] 32) #[.int .i64 m, .string (bs s), .slice a xs.length cap] 32)
  have ck := idesk_any ((m, s), xs) a cap _ (h.grown g2)
  rw [hd] at ck
  unfold dkV at ck
  have hx8 : xs.length ≤ 9 := by have := (dkB_of hd).2.2; change xs.length ≤ 8 at this; omega
  have cc : ∀ W, LdsAt W a xs → Calls Tryz.prog 50 #[.agg #[.int .i64 m, .string (bs s), .slice a xs.length cap]] W fun e w' => ∃ a' cap', e = .returned (.agg #[.int .i64 m, .string (bs s), .slice a' xs.length cap']) ∧ Own2 w' W.heap.size a' cap' xs ∧ W.grownBy w' none := fun W hW => copied_any ((m, s), xs) a cap W hW h0 hx8
  have HX := Lib.hid (h.grown g2)
  have HL := Lib.hid hl
  have HT := Lib.hid ht
  have HD := Lib.hid hd
  have G2 := Lib.hid g2
  have hll : ¬ ((40 : Int) < (l.length : Int)) := by omega
  clear h g2 hl ht hd h0
  go_enter Tryz.func16, Tryz.ntmps16
  go_wp2_with fail
  generalize (w.alloc (.cells #[.int .i64 m, .string (bs s), .slice a xs.length cap] 32)).alloc (.cells #[.int .i64 0, .string ⟨#[]⟩, .slice none 0 0] 32) = W at *
  refine ck.mono ?_
  rintro e w1 ⟨rfl, hg1⟩
  obtain ⟨d0, d1, d2⟩ := (hD.out.grown hg1).three
  clear ck
  go_wp2_with fail
  refine (cc _ (HX.out.grown hg1)).mono ?_
  rintro e w2 ⟨a2, c2, rfl, ho, hg2⟩
  have g02 := grownBy_trans G2.out (grownBy_trans hg1 hg2)
  have hA := CellsAt.new w2 #[.int .i64 m, .string (bs s), .slice a2 xs.length c2] 32
  have gA := World.grownBy_alloc w2 (.cells #[.int .i64 m, .string (bs s), .slice a2 xs.length c2] 32) none
  have s1 : w.heap.size ≤ w1.heap.size := (grownBy_trans G2.out hg1).size
  have hZ2 := (hZ.out.grown (grownBy_trans hg1 hg2)).grown gA
  have hlt := (hZ.out.grown (grownBy_trans hg1 hg2)).lt
  have hInit : Hid (RunI w w2.heap.size ((m, s), xs) l (.int .i64 ((0 : Nat) : Int)) (.int .i64 ((0 : Nat) : Int)) (w2.alloc (.cells #[.int .i64 m, .string (bs s), .slice a2 xs.length c2] 32))) := ⟨0, 0, ((m, s), xs), a2, c2, by omega, rfl, rfl, by omega, by rw [List.take_zero]; rfl, HD.out, hA, (ho.kept gA).l.mono s1, (ho.kept gA).bare, hZ2, grownBy_trans g02 gA, hlt⟩
  clear ho hg1 hg2 g02 gA s1 hZ2 hA cc d0 d1 d2
  go_wp2_with fail
  generalize w2.alloc (.cells #[.int .i64 m, .string (bs s), .slice a2 xs.length c2] 32) = W2 at *
  generalize w2.heap.size = bA at *
  go_loopw [25, 7] (fun iv nv wr => RunI w bA ((m, s), xs) l iv nv wr) (fun iv _ _ => l.length - (intOf iv).toNat)
  case atStart => exact hInit.out
  case round =>
    obtain ⟨i, n, ⟨⟨p, u⟩, ys⟩, ae, ce, hi, rfl, rfl, hni, hrun, hde, hB, ho, hz, hZr, hgr, hb⟩ := hrel
    have HB := Lib.hid hB
    have HO := Lib.hid ho
    have HZr := Lib.hid hZr
    have HG := Lib.hid hgr
    have HDE := Lib.hid hde
    have HR := Lib.hid hrun
    clear hB ho hZr hgr hde hrun
    obtain ⟨⟨y0, y1, y2⟩, v0, v1, v2⟩ := dk_facts HB.out
    obtain ⟨⟨z0, z1, z2⟩, f0, f1, f2⟩ := dk_facts HZr.out
    by_cases hlt : i < l.length
    · have hst : ∀ f ok, doR ((p, u), ys) (l.getD i nilDd) = (f, ok) → runD ((m, s), xs) (l.take (i + 1)) = (f, cond ok (n + 1) n) ∧ dkB f = true ∧ (ok = false → f = ((p, u), ys)) := fun f ok hr => run_step hlt HR.out HDE.out hr
      have htD := HT.out _ (getDd_mem hlt)
      rcases (HL.out.grown HG.out).2 with q | ⟨bx, ox, rfl, _, hcx⟩
      · rw [q] at hlt; simp at hlt
      obtain ⟨k0, k1, k2⟩ := hcx i hlt
      clear hcx
      obtain ⟨D, hD⟩ : ∃ D, D = l.getD i nilDd := ⟨_, rfl⟩
      rw [← hD] at hst htD k0 k1 k2
      obtain ⟨⟨⟨⟨p2, u2⟩, ys2⟩, ok⟩, hR⟩ : ∃ R, R = doR ((p, u), ys) D := ⟨_, rfl⟩
      have HS := Lib.hid (hst _ _ hR.symm)
      have cd : ∀ W, LdsAt W ae ys → Calls Tryz.prog 52 #[.agg #[.int .i64 p, .string (bs u), .slice ae ys.length ce], .agg #[.int .i64 D.1, .int .i64 D.2.1, .string (bs D.2.2)]] W fun e w' => ∃ a' cap', e = .returned (.tuple #[.agg #[.int .i64 p2, .string (bs u2), .slice a' ys2.length cap'], .bool ok]) ∧ OwnL w' W.heap.size a' ys2 ∧ (a' = none → cap' = 0) ∧ W.grownBy w' none := fun W hW => by
        have := ido_any ((p, u), ys) D ae ce W hW hz htD
        rw [← hR] at this
        exact this
      clear hst hR hD htD HDE
      have gE := World.grownBy_alloc wr (.cells #[.int .i64 D.1, .int .i64 D.2.1, .string (bs D.2.2)] 40) none
      obtain ⟨e0, e1, e2⟩ := (CellsAt.new wr #[.int .i64 D.1, .int .i64 D.2.1, .string (bs D.2.2)] 40).three
      obtain ⟨b0, b1, b2⟩ := (HB.out.grown gE).three
      clear y0 y1 y2 v0 v1 v2 z0 z1 z2 f0 f1 f2
      go_wp2_with fail
      refine (cd _ (HO.out.at.grown gE)).mono ?_
      rintro e w3 ⟨a3, c3, rfl, o3, z3, hg3⟩
      have gX := World.grownBy_alloc w3 (.cells #[.int .i64 p2, .string (bs u2), .slice a3 ys2.length c3] 32) none
      have gg := Lib.hid (grownBy_trans gE (grownBy_trans hg3 gX))
      obtain ⟨x0, x1, x2⟩ := (CellsAt.new w3 #[.int .i64 p2, .string (bs u2), .slice a3 ys2.length c3] 32).three
      have HB4 := Lib.hid (HB.out.grown gg.out)
      have HZ4 := Lib.hid (HZr.out.grown gg.out)
      have so : w.heap.size ≤ wr.heap.size := HG.out.size
      have O4 := Lib.hid ((o3.kept gX).mono (base' := w.heap.size) (Nat.le_trans so gE.size))
      have G4 := Lib.hid (grownBy_trans HG.out gg.out)
      obtain ⟨⟨y0, y1, y2⟩, v0, v1, v2⟩ := dk_facts HB4.out
      clear o3 hg3 gX cd e0 e1 e2 b0 b1 b2 gE k0 k1 k2
      cases ok
      · go_wp2_with fail
        go_roundw
        case rel => exact ⟨i + 1, n, ((p2, u2), ys2), a3, c3, by omega, by go_num, rfl, by omega, HS.out.1, HS.out.2.1, HB4.out.put3 _ _ _, O4.out.put3 ⟨_, HB4.out⟩ _ _ _, z3, HZ4.out.kept (put3_past _ bA _ _ _) (by simp; omega), put3_grown _ G4.out (by omega) _ _ _, hb⟩
        case measure => simp [intOf]; omega
      · go_wp2_with fail
        go_roundw
        case rel => exact ⟨i + 1, n + 1, ((p2, u2), ys2), a3, c3, by omega, by go_num, by go_num, by omega, HS.out.1, HS.out.2.1, HB4.out.put3 _ _ _, O4.out.put3 ⟨_, HB4.out⟩ _ _ _, z3, HZ4.out.kept (put3_past _ bA _ _ _) (by simp; omega), put3_grown _ G4.out (by omega) _ _ _, hb⟩
        case measure => simp [intOf]; omega
    · obtain rfl : i = l.length := by omega
      have e := HR.out
      rw [List.take_length] at e
      have F := Lib.hid (HZr.out.put3 (.int .i64 p) (.string (bs u)) (.slice ae ys.length ce))
      have P : Hid (RunPost (runD ((m, s), xs) l) w (.returned (.tuple #[.agg #[.int .i64 p, .string (bs u), .slice ae ys.length ce], .int .i64 (n : Int)])) (((wr.setCell ⟨w.heap.size + 1, 0, none⟩ (.int .i64 p)).setCell ⟨w.heap.size + 1, 1, none⟩ (.string (bs u))).setCell ⟨w.heap.size + 1, 2, none⟩ (.slice ae ys.length ce))) := by
        rw [e]
        exact ⟨ae, ce, rfl, HO.out.put3 ⟨_, HZr.out⟩ _ _ _, hz, put3_grown _ HG.out (by omega) _ _ _⟩
      clear e
      go_wp2_with fail
      exact bodyPost_ret (v := .tuple #[.agg #[.int .i64 p, .string (bs u), .slice ae ys.length ce], .int .i64 (n : Int)]) (resDkB (b := .int .i64 (n : Int)) rfl _ rfl rfl F.out) rfl P.out


theorem irun_any (d : Dk) (l : List Dd) (a b : Option Addr) (cap capb : Nat) (w : World) (h : LdsAt w a d.2) (h0 : a = none → cap = 0) (hl : DdsAt w b l) (ht : ∀ x ∈ l, x.2.2.length ≤ 4000000) :
    Calls Tryz.prog 16 #[dkV d a cap, .slice b l.length capb] w (RunPost (runR d l) w) := by
  obtain ⟨⟨m, s⟩, xs⟩ := d
  unfold runR
  by_cases hd : dkB ((m, s), xs) = true ∧ l.length ≤ 40
  · rw [if_pos hd]; exact irun_ok m s xs l a b cap capb w h h0 hl ht hd.1 hd.2
  · rw [if_neg hd]
    refine irun_bad m s xs l a b cap capb w h ?_
    cases e : dkB ((m, s), xs)
    · exact .inl rfl
    · exact .inr ⟨rfl, Nat.lt_of_not_le fun q => hd ⟨e, q⟩⟩

end Go.Proofs.YtlnffpofbfigaaaGreatDoor

/-
  A line to a desk that is a deed: the landed code's DeskLine.
-/
namespace Go.Proofs.YtlnffpofbfigaaaGreatDoor
open Go.RowKit

def okT (b : Bool) : ByteArray := cond b ⟨#[111, 107]⟩ ⟨#[110, 111, 116]⟩
def LnPost (r : Dk × Bool) (w : World) (e : Ending) (w' : World) : Prop := ∃ a cap, e = .returned (.tuple #[dkV r.1 a cap, .string (okT r.2)]) ∧ OwnL w' w.heap.size a r.1.2 ∧ (a = none → cap = 0) ∧ w.grownBy w' none

set_option maxRecDepth 8000 in
set_option maxHeartbeats 2000000 in
theorem idl_deed (m : Int) (s : List UInt8) (xs : List Ld) (D : Dd) (t : List UInt8) (a : Option Addr) (cap : Nat) (w : World) (hq : rdD t = some D) (htl : t.length ≤ L48) (hDl : D.2.2.length ≤ 4000000) (h : LdsAt w a xs) (h0 : a = none → cap = 0) (hd : dkB ((m, s), xs) = true) (hT : WdAt w ∧ ErAt w) :
    Calls Tryz.prog 14 #[.agg #[.int .i64 m, .string (bs s), .slice a xs.length cap], .string (bs t)] w (LnPost (doR ((m, s), xs) D) w) := by
  have g2 : w.grownBy ((w.alloc (.cells #[.int .i64 m, .string (bs s), .slice a xs.length cap] 32)).alloc (.cells #[.int .i64 0, .string ⟨#[]⟩, .slice none 0 0] 32)) none := grownBy_trans (World.grownBy_alloc w _ none) (World.grownBy_alloc _ _ none)
  have hZ := Lib.hid (CellsAt.second w (.cells #[.int .i64 m, .string (bs s), .slice a xs.length cap] 32) #[.int .i64 0, .string ⟨#[]⟩, .slice none 0 0] 32)
  have hD := Lib.hid (CellsAt.first w (.cells #[.int .i64 0, .string ⟨#[]⟩, .slice none 0 0] 32) #[.int .i64 m, .string (bs s), .slice a xs.length cap] 32)
  have ck := idesk_any ((m, s), xs) a cap _ (h.grown g2)
  rw [hd] at ck
  unfold dkV at ck
  have cr := fun w hT hE => ird_v t _ (rdV_some hq) w hT hE htl
  unfold ddV at cr
  obtain ⟨⟨⟨⟨p2, u2⟩, ys2⟩, ok⟩, hR⟩ : ∃ R, R = doR ((m, s), xs) D := ⟨_, rfl⟩
  have cd : ∀ W, LdsAt W a xs → Calls Tryz.prog 52 #[.agg #[.int .i64 m, .string (bs s), .slice a xs.length cap], .agg #[.int .i64 D.1, .int .i64 D.2.1, .string (bs D.2.2)]] W fun e w' => ∃ a' cap', e = .returned (.tuple #[.agg #[.int .i64 p2, .string (bs u2), .slice a' ys2.length cap'], .bool ok]) ∧ OwnL w' W.heap.size a' ys2 ∧ (a' = none → cap' = 0) ∧ W.grownBy w' none := fun W hW => by
    have := ido_any ((m, s), xs) D a cap W hW h0 hDl
    rw [← hR] at this
    exact this
  rw [← hR]
  have HX := Lib.hid (h.grown g2)
  have HT := Lib.hid hT
  have G2 := Lib.hid g2
  generalize bs t = U at *
  clear h g2 hd hT hq htl hDl hR
  go_enter Tryz.func14, Tryz.ntmps14
  go_wp2_with fail
  generalize (w.alloc (.cells #[.int .i64 m, .string (bs s), .slice a xs.length cap] 32)).alloc (.cells #[.int .i64 0, .string ⟨#[]⟩, .slice none 0 0] 32) = W at *
  refine ck.mono ?_
  rintro e w1 ⟨rfl, hg1⟩
  have G1 := Lib.hid (grownBy_trans G2.out hg1)
  have g1W := Lib.hid hg1
  clear ck hg1
  go_wp2_with fail
  refine (cr _ (HT.out.1.grown G1.out) (HT.out.2.grown G1.out)).mono ?_
  rintro e w2 ⟨rfl, hg2⟩
  have gA := World.grownBy_alloc w2 (.cells #[.int .i64 D.1, .int .i64 D.2.1, .string (bs D.2.2)] 40) none
  have gW2 := Lib.hid (grownBy_trans g1W.out (grownBy_trans hg2 gA))
  obtain ⟨d0, d1, d2⟩ := (hD.out.grown gW2.out).three
  obtain ⟨e0, e1, e2⟩ := (CellsAt.new w2 #[.int .i64 D.1, .int .i64 D.2.1, .string (bs D.2.2)] 40).three
  clear cr hg2 gA
  go_wp2_with fail
  refine (cd _ (HX.out.grown gW2.out)).mono ?_
  rintro e w3 ⟨a3, c3, rfl, o3, z3, hg3⟩
  have gX := World.grownBy_alloc w3 (.cells #[.int .i64 p2, .string (bs u2), .slice a3 ys2.length c3] 32) none
  have gW3 := Lib.hid (grownBy_trans gW2.out (grownBy_trans hg3 gX))
  have G3 := Lib.hid (grownBy_trans G2.out gW3.out)
  have hZ3 := Lib.hid (hZ.out.grown gW3.out)
  obtain ⟨⟨y0, y1, y2⟩, v0, v1, v2⟩ := dk_facts hZ3.out
  obtain ⟨x0, x1, x2⟩ := (CellsAt.new w3 #[.int .i64 p2, .string (bs u2), .slice a3 ys2.length c3] 32).three
  have O3 := Lib.hid ((o3.kept gX).mono (base' := w.heap.size) (grownBy_trans G2.out gW2.out).size)
  have F := Lib.hid (hZ3.out.put3 (.int .i64 p2) (.string (bs u2)) (.slice a3 ys2.length c3))
  have P : Hid (LnPost (((p2, u2), ys2), ok) w (.returned (.tuple #[.agg #[.int .i64 p2, .string (bs u2), .slice a3 ys2.length c3], .string (okT ok)])) ((((w3.alloc (.cells #[.int .i64 p2, .string (bs u2), .slice a3 ys2.length c3] 32)).setCell ⟨w.heap.size + 1, 0, none⟩ (.int .i64 p2)).setCell ⟨w.heap.size + 1, 1, none⟩ (.string (bs u2))).setCell ⟨w.heap.size + 1, 2, none⟩ (.slice a3 ys2.length c3))) :=
    ⟨a3, c3, rfl, O3.out.put3 ⟨_, hZ3.out⟩ _ _ _, z3, put3_grown _ G3.out (by omega) _ _ _⟩
  clear hg3 gX cd e0 e1 e2 o3
  cases ok
  · go_wp2_with fail
    exact bodyPost_ret (v := .tuple #[.agg #[.int .i64 p2, .string (bs u2), .slice a3 ys2.length c3], .string (okT false)]) (resDkB (b := .string (okT false)) rfl _ rfl rfl F.out) rfl P.out
  · go_wp2_with fail
    exact bodyPost_ret (v := .tuple #[.agg #[.int .i64 p2, .string (bs u2), .slice a3 ys2.length c3], .string (okT true)]) (resDkB (b := .string (okT true)) rfl _ rfl rfl F.out) rfl P.out

end Go.Proofs.YtlnffpofbfigaaaGreatDoor

/-
  Journals as texts: the model's.
-/
namespace Go.Proofs.YtlnffpofbfigaaaGreatDoor
open Go.RowKit

theorem take_dd {xs : List Dd} {k : Nat} (hk : k < xs.length) : xs.take (k + 1) = xs.take k ++ [xs.getD k nilDd] := by
  rw [List.take_add_one, List.getD_eq_getElem?_getD]
  simp [hk]
theorem jB_snoc {l : List Dd} {a : Dd} (h : jB l = true) (ha : txD a ≠ []) : jB (l ++ [a]) = true := by
  unfold jB at *
  rw [List.all_append, h]
  cases e : txD a with
  | nil => exact absurd e ha
  | cons x y => simp [e]
theorem jL_len : ∀ l : List Dd, (jL l).length ≤ 67 * l.length
  | [] => by simp [jL]
  | a :: l => by
    have := jL_len l
    have := tx_len a
    simp only [jL, List.length_append, List.length_cons]
    omega
theorem jT_no {xs : List Dd} {k : Nat} (hk : k < xs.length) (h : txD (xs.getD k nilDd) = []) : jT xs = [] := by
  unfold jT
  rw [jB_no (getDd_mem hk) h]
  rfl
theorem jT_all {xs : List Dd} (h : jB xs = true) : jT xs = jL xs := if_pos h

def JtRel (xs : List Dd) (w : World) (kv ov : Value) (wr : World) : Prop :=
  ∃ k : Nat, k ≤ xs.length ∧ kv = .int .i64 k ∧ ov = .string (bs (jL (xs.take k))) ∧ jB (xs.take k) = true ∧ w.grownBy wr none
def JtPost (xs : List Dd) (w : World) (e : Ending) (w' : World) : Prop := e = .returned (.string (bs (jT xs))) ∧ w.grownBy w' none

set_option maxRecDepth 8000 in
set_option maxHeartbeats 4000000 in
theorem sjt_any (xs : List Dd) (hn : xs.length ≤ 1048576) (a : Option Addr) (cap : Nat) (w : World) (h : DdsAt w a xs) :
    Calls Tryz.prog 39 #[.slice a xs.length cap] w (JtPost xs w) := by
  have H := Lib.hid h
  clear h
  go_enter Tryz.func39, Tryz.ntmps39
  go_wp2
  go_loopw [4, 3] (fun kv ov wr => JtRel xs w kv ov wr) (fun kv _ _ => xs.length - (intOf kv).toNat)
  case atStart => exact ⟨0, by omega, rfl, rfl, rfl, grownBy_refl _ _⟩
  case round =>
    obtain ⟨k, hk, rfl, rfl, hB, hgr⟩ := hrel
    have Hgr := Lib.hid hgr
    have HB := Lib.hid hB
    have hjl := jL_len (xs.take k)
    rw [List.length_take, Nat.min_eq_left hk] at hjl
    clear hgr hB
    by_cases hlt : k < xs.length
    · have hx := H.out.grown Hgr.out
      rcases hx.2 with h0 | ⟨b, o, rfl, hb, hc⟩
      · rw [h0] at hlt; simp at hlt
      have hx2 : Hid (∀ w2, wr.grownBy w2 none → w2.cell? ⟨b, o + k * 3, none⟩ = some (.int .i64 (xs.getD k nilDd).1) ∧ w2.cell? ⟨b, o + k * 3 + 1, none⟩ = some (.int .i64 (xs.getD k nilDd).2.1) ∧ w2.cell? ⟨b, o + k * 3 + 2, none⟩ = some (.string (bs (xs.getD k nilDd).2.2))) := Lib.hid fun w2 g => by
        rcases (hx.grown g).2 with h0 | ⟨b', o', e, _, hc'⟩
        · rw [h0] at hlt; simp at hlt
        · cases e; exact hc' k hlt
      obtain ⟨c0, c1, c2⟩ := hc k hlt
      clear hx hc hb
      have hno := Lib.hid (jT_no hlt)
      have hyes := Lib.hid (take_dd hlt)
      generalize xs.getD k nilDd = q at *
      obtain ⟨q1, q2, q3⟩ := q
      by_cases ht : txD (q1, q2, q3) = []
      · have cs := stx_v q1 q2 q3 ⟨#[]⟩ (by rw [ht]; rfl)
        go_wp2_with (first | (go_at_call 90; refine (cs _).mono ?_; rintro e w2 ⟨rfl, hg⟩))
        go_ret
        exact ⟨by rw [hno.out ht]; rfl, grownBy_trans Hgr.out hg⟩
      · have cs := stx_v q1 q2 q3 (bs (txD (q1, q2, q3))) rfl
        have hne := empty_bs ht
        have htl := tx_len (q1, q2, q3)
        have HT := Lib.hid ht
        generalize hT : txD (q1, q2, q3) = t at *
        have hz1 := bs_size (jL (xs.take k))
        have hz2 := bs_size t
        have n1 : ¬ (9223372036854775807 < (bs (jL (xs.take k))).size + (bs t).size) := by omega
        have n2 : ¬ (9223372036854775807 < (bs (jL (xs.take k))).size + (bs t).size + 1) := by omega
        clear hz1 hz2 ht
        go_wp2_with fail
        refine (cs _).mono ?_
        rintro e w2 ⟨rfl, hg⟩
        obtain ⟨d0, d1, d2⟩ := hx2.out _ hg
        have Hg2 := Lib.hid (grownBy_trans Hgr.out hg)
        clear hg c0 c1 c2
        go_wp2_with (first | (go_at_call 90; refine (cs _).mono ?_; rintro e w3 ⟨rfl, hg3⟩))
        go_roundw
        case rel => exact ⟨k + 1, by omega, by go_num, by rw [hyes.out, jL_snoc, hT, ← bs_app, ← bs_app]; rfl, by rw [hyes.out]; exact jB_snoc HB.out (by rw [hT]; exact HT.out), grownBy_trans Hg2.out hg3⟩
        case measure => simp [intOf]; omega
    · obtain rfl : k = xs.length := by omega
      go_wp2
      go_ret
      have hB := HB.out
      rw [List.take_length] at hB ⊢
      exact ⟨by rw [jT_all hB]; rfl, Hgr.out⟩

end Go.Proofs.YtlnffpofbfigaaaGreatDoor

/-
  The draw of a journal's deeds.
-/
namespace Go.Proofs.YtlnffpofbfigaaaGreatDoor
open Go.RowKit

def WrRel (w0 : World) (gl r P : Nat) (l : List Dd) (kv ov : Value) (wr : World) : Prop :=
  ∃ (k : Nat) (m : List Dd) (g cap : Nat), k ≤ l.length ∧ kv = .int .i64 k ∧ ov = .slice (some ⟨g, 0, none⟩) m.length cap ∧ m.length ≤ k ∧ (Own3 wr w0.heap.size (some ⟨g, 0, none⟩) cap m ∧ g ≠ gl ∧ DdsAt wr (some ⟨gl, 0, none⟩) l ∧ gl < wr.heap.size ∧ (∀ x ∈ m, x.2.2.length ≤ 100) ∧ Rd wr r P ∧ w0.grownBy wr (some r))
/-- The same world, but for what is kept. -/
theorem wr_grown {w0 wr w2 : World} {gl r P g cap : Nat} {l m : List Dd} (h : Own3 wr w0.heap.size (some ⟨g, 0, none⟩) cap m ∧ g ≠ gl ∧ DdsAt wr (some ⟨gl, 0, none⟩) l ∧ gl < wr.heap.size ∧ (∀ x ∈ m, x.2.2.length ≤ 100) ∧ Rd wr r P ∧ w0.grownBy wr (some r)) (hg : wr.grownBy w2 none) :
    Own3 w2 w0.heap.size (some ⟨g, 0, none⟩) cap m ∧ g ≠ gl ∧ DdsAt w2 (some ⟨gl, 0, none⟩) l ∧ gl < w2.heap.size ∧ (∀ x ∈ m, x.2.2.length ≤ 100) ∧ Rd w2 r P ∧ w0.grownBy w2 (some r) :=
  ⟨h.1.kept hg, h.2.1, h.2.2.1.grown hg, Nat.lt_of_lt_of_le h.2.2.2.1 hg.size, h.2.2.2.2.1, h.2.2.2.2.2.1.grown hg, grownBy_trans h.2.2.2.2.2.2 (grown_none hg)⟩
theorem wr_next {w0 wr w2 : World} {gl r P g cap a4' cap4 : Nat} {l m : List Dd} {q : Dd} (h : Own3 wr w0.heap.size (some ⟨g, 0, none⟩) cap m ∧ g ≠ gl ∧ DdsAt wr (some ⟨gl, 0, none⟩) l ∧ gl < wr.heap.size ∧ (∀ x ∈ m, x.2.2.length ≤ 100) ∧ Rd wr r P ∧ w0.grownBy wr (some r)) (hq : q.2.2.length ≤ 100) (hr : r < w0.heap.size)
    (ho : Own3 w2 w0.heap.size (some ⟨a4', 0, none⟩) cap4 (m ++ [q])) (hg : wr.grownBy w2 (Value.slice (some ⟨g, 0, none⟩) m.length cap).ownBlock) (hat : (Value.slice (some ⟨a4', 0, none⟩) (m.length + 1) cap4).ownBlock = (Value.slice (some ⟨g, 0, none⟩) m.length cap).ownBlock ∨ (Value.slice (some ⟨a4', 0, none⟩) (m.length + 1) cap4).ownBlock = some wr.heap.size) :
    Own3 w2 w0.heap.size (some ⟨a4', 0, none⟩) cap4 (m ++ [q]) ∧ a4' ≠ gl ∧ DdsAt w2 (some ⟨gl, 0, none⟩) l ∧ gl < w2.heap.size ∧ (∀ x ∈ m ++ [q], x.2.2.length ≤ 100) ∧ Rd w2 r P ∧ w0.grownBy w2 (some r) := by
  obtain ⟨h1, h2, h3, h4, h5, h6, h7⟩ := h
  refine ⟨ho, ?_, h3.kept hg fun x hx e => ?_, Nat.lt_of_lt_of_le h4 hg.size, fun x hx => ?_, rd_own3 h6 h1 hr hg, grown_own3 h7 h1 (Nat.le_refl _) hg⟩
  · rcases hat with e | e
    · simp only [Value.ownBlock, Option.some.injEq] at e
      rw [e]; exact h2
    · simp only [Value.ownBlock, Option.some.injEq] at e
      rw [e]; exact fun k => absurd h4 (by omega)
  · cases hx
    simp only [Value.ownBlock, Option.some.injEq] at e
    exact h2 e.symm
  · rcases List.mem_append.1 hx with k | k
    · exact h5 x k
    · rw [List.mem_singleton] at k; rw [k]; exact hq

set_option maxRecDepth 8000 in
set_option maxHeartbeats 4000000 in
theorem written_draw (w : World) (r P : Nat) (hr : Rd w r P) (hP : P ≤ 40000) :
    Calls Tryz.prog 40 #[.pointer (some ⟨r, 0, none⟩)] w (DdsDraw r P w) := by
  have hlt := hr.lt
  obtain ⟨i0, hi, hz0, hz1, hz2⟩ := info_parts infoDd
  go_enter Tryz.func40, Tryz.ntmps40
  go_wp2_with fail
  have hr0 := hr.alloc (.cells #[] 40)
  refine (deeds_draw (w.alloc (.cells #[] 40)) r P hr0 hP).mono ?_
  rintro e w1 ⟨l, al, capl, rfl, hl5, hol, ⟨gl, rfl⟩, hl100, hr1, hg1⟩
  have hI : Hid (Own3 w1 w.heap.size (some ⟨w.heap.size, 0, none⟩) 0 [] ∧ w.heap.size ≠ gl ∧ DdsAt w1 (some ⟨gl, 0, none⟩) l ∧ gl < w1.heap.size ∧ (∀ x ∈ ([] : List Dd), x.2.2.length ≤ 100) ∧ Rd w1 r (P + 600) ∧ w.grownBy w1 (some r)) := by
    have hb := World.ownsRow.lt hol gl rfl
    exact ⟨(Own3.made w).past hg1 hlt, by simp at hb; omega, hol.at, hb.2, by simp, hr1, grownBy_trans (World.grownBy_alloc _ _ _) hg1⟩
  have HL := Lib.hid hl100
  clear hr0 hr1 hg1 hol hr hl100
  go_wp2_with fail
  go_loopw [5, 3] (fun kv ov wr => WrRel w gl r (P + 600) l kv ov wr) (fun kv _ _ => l.length - (intOf kv).toNat)
  case atStart => exact ⟨0, [], _, 0, by omega, rfl, rfl, by simp, hI.out⟩
  case round =>
    obtain ⟨k, m, g, cap, hk, rfl, rfl, hmk, hR⟩ := hrel
    have HR := Lib.hid hR
    clear hR
    by_cases hlt2 : k < l.length
    · have hx2 : Hid (∀ w2, wr.grownBy w2 none → w2.cell? ⟨gl, 0 + k * 3, none⟩ = some (.int .i64 (l.getD k nilDd).1) ∧ w2.cell? ⟨gl, 0 + k * 3 + 1, none⟩ = some (.int .i64 (l.getD k nilDd).2.1) ∧ w2.cell? ⟨gl, 0 + k * 3 + 2, none⟩ = some (.string (bs (l.getD k nilDd).2.2))) := Lib.hid fun w2 gg => by
        rcases ((HR.out.2.2.1).grown gg).2 with h0 | ⟨b', o', e, _, hc'⟩
        · rw [h0] at hlt2; simp at hlt2
        · cases e; exact hc' k hlt2
      have hq100 : Hid ((l.getD k nilDd).2.2.length ≤ 100) := Lib.hid (HL.out _ (getDd_mem hlt2))
      obtain ⟨c0, c1, c2⟩ := hx2.out wr (grownBy_refl _ _)
      rw [Nat.zero_add] at c0 c1 c2
      generalize l.getD k nilDd = q at *
      obtain ⟨q1, q2, q3⟩ := q
      by_cases ht : txD (q1, q2, q3) = []
      · have cs := stx_v q1 q2 q3 ⟨#[]⟩ (by rw [ht]; rfl)
        go_wp2_with fail
        refine (cs _).mono ?_
        rintro e w2 ⟨rfl, hg⟩
        have HR2 := Lib.hid (wr_grown HR.out hg)
        clear hg
        go_wp2_with fail
        go_roundw
        case rel => exact ⟨k + 1, m, g, cap, by omega, by go_num, rfl, by omega, HR2.out⟩
        case measure => simp [intOf]; omega
      · have cs := stx_v q1 q2 q3 (bs (txD (q1, q2, q3))) rfl
        have hne := empty_bs ht
        generalize txD (q1, q2, q3) = t at *
        clear ht
        go_wp2_with fail
        refine (cs _).mono ?_
        rintro e w2 ⟨rfl, hg⟩
        obtain ⟨d0, d1, d2⟩ := hx2.out _ hg
        rw [Nat.zero_add] at d0 d1 d2
        have gX := World.grownBy_alloc w2 (.cells #[.int .i64 q1, .int .i64 q2, .string (bs q3)] 40) none
        have HR2 := Lib.hid (wr_grown (wr_grown HR.out hg) gX)
        have HN := Lib.hid (CellsAt.new w2 #[.int .i64 q1, .int .i64 q2, .string (bs q3)] 40)
        have hsz : w.heap.size ≤ (w2.alloc (.cells #[.int .i64 q1, .int .i64 q2, .string (bs q3)] 40)).heap.size := HR2.out.2.2.2.2.2.2.size
        clear hg c0 c1 c2 gX
        go_wp2_with (at_builtin; refine wpList_append_own_at _ rfl _ _ 24 rfl w.heap.size 40 i0 (.agg #[.int .i64 0, .int .i64 0, .string ⟨#[]⟩]) 3 32 Tryz.underlying24 hi hz0 hz1 hz2 rfl (by decide) _ _ _ rfl HR2.out.1 ⟨w2.heap.size, 0, none⟩ 1 1 (ddC [(q1, q2, q3)]) rfl rfl (ddC_news HN.out) (ddC_one [(q1, q2, q3)]) (by unfold maxLen; omega) (by omega) hsz ?_; intro v' w4 hown' hgrow _ hat; obtain ⟨a4, cap4, rfl, ho4⟩ := own3_more hown'; obtain ⟨g4, rfl⟩ := ho4.way.resolve_left (fun z => by simp at z); have HR4 := Lib.hid (wr_next HR2.out hq100.out hlt ho4 hgrow hat); clear hown' hgrow hat ho4)
        go_roundw
        case rel => exact ⟨k + 1, m ++ [(q1, q2, q3)], g4, cap4, by omega, by go_num, by simp, by simp; omega, HR4.out⟩
        case measure => simp [intOf]; omega
    · go_wp2_with fail
      go_ret
      obtain ⟨h1, h2, h3, h4, h5, h6, h7⟩ := HR.out
      exact ⟨m, _, cap, rfl, by omega, h1, ⟨_, rfl⟩, h5, h6, h7⟩

end Go.Proofs.YtlnffpofbfigaaaGreatDoor

/-
  The draw of FnJournalText's deeds; the laws' sameDeeds at two rows of the same deeds.
-/
namespace Go.Proofs.YtlnffpofbfigaaaGreatDoor
open Go.RowKit

def DjtPost (w : World) (e : Ending) (w' : World) : Prop := ∃ (m : List Dd) (a : Option Addr) (cap : Nat), e = .returned (.slice a m.length cap) ∧ m.length ≤ 6 ∧ Own3 w' w.heap.size a cap m ∧ w.grownBy w' none

def SddRel (xs : List Dd) (w : World) (i : Value) (wr : World) : Prop := ∃ k : Nat, k ≤ xs.length ∧ i = .int .i64 k ∧ w.grownBy wr none
set_option maxRecDepth 8000 in
set_option maxHeartbeats 2000000 in
theorem sameDeeds_yes (a b : Option Addr) (ca cb : Nat) (xs : List Dd) (w : World) (hx : DdsAt w a xs) (hy : DdsAt w b xs) :
    Calls Tryz.prog 11 #[.slice a xs.length ca, .slice b xs.length cb] w fun e w' => e = .returned (.bool true) ∧ w.grownBy w' none := by
  have hm := hx.1
  unfold maxLen at hm
  have HX := Lib.hid hx
  have HY := Lib.hid hy
  clear hx hy
  go_enter Tryz.func11, Tryz.ntmps11
  go_wp2
  go_loopw [5] (fun i wr => SddRel xs w i wr) (fun i _ => xs.length - (intOf i).toNat)
  case atStart => exact ⟨0, by omega, rfl, grownBy_refl _ _⟩
  case round =>
    obtain ⟨k, hk, rfl, hgr⟩ := hrel
    have Hgr := Lib.hid hgr
    clear hgr
    by_cases hlt : k < xs.length
    · rcases (HX.out.grown Hgr.out).2 with h0 | ⟨bx, ox, rfl, _, hcx⟩
      · rw [h0] at hlt; simp at hlt
      rcases (HY.out.grown Hgr.out).2 with h0 | ⟨by', oy, rfl, _, hcy⟩
      · rw [h0] at hlt; simp at hlt
      obtain ⟨x0, x1, x2⟩ := hcx k hlt
      obtain ⟨y0, y1, y2⟩ := hcy k hlt
      clear hcx hcy
      generalize xs.getD k nilDd = q at *
      obtain ⟨q1, q2, q3⟩ := q
      go_wp2_with fail
      go_region_with fail
      all_goals go_wp2_with fail
      all_goals go_roundw
      all_goals first | (simp [intOf]; omega) | exact ⟨k + 1, by omega, by go_num, grownBy_drew Hgr.out⟩ | exact ⟨k + 1, by omega, by go_num, grownBy_drewN Hgr.out _⟩ | exact ⟨k + 1, by omega, by go_num, Hgr.out⟩
    · obtain rfl : k = xs.length := by omega
      go_wp2
      go_ret
      exact ⟨rfl, Hgr.out⟩

end Go.Proofs.YtlnffpofbfigaaaGreatDoor

/-
  Journals read: the landed code's.
-/
namespace Go.Proofs.YtlnffpofbfigaaaGreatDoor
open Go.RowKit

def strLen : Value → Nat
  | .string s => s.size
  | _ => 0
theorem cut_v (l : List UInt8) (c : UInt8) (T B : List UInt8) (f : Bool) (h : Lib.cut l [c] = (T, B, f)) (w : World) (hl : l.length ≤ L48) :
    Calls Tryz.prog 43 #[.string (bs l), .string ⟨#[c]⟩] w fun e w' => e = .returned (.tuple #[.string (bs T), .string (bs B), .bool f]) ∧ w.grownBy w' none := by
  have hh := cut_any l c w hl
  unfold CutD at hh
  rw [h] at hh
  exact hh
def RjR (l : List UInt8) (w : World) (m : List Dd) (a : Option Addr) (cap n : Nat) (rs : List UInt8) (wr : World) : Prop :=
  n + rs.length = l.length ∧ rdJ l = (m ++ (rdJ rs).1, n + (rdJ rs).2) ∧ m.length ≤ n ∧ Own3 wr w.heap.size a cap m ∧ w.grownBy wr none
def RjRel (l : List UInt8) (w : World) (lv rv : Value) (wr : World) : Prop :=
  ∃ (m : List Dd) (a : Option Addr) (cap n : Nat) (rs : List UInt8), lv = .slice a m.length cap ∧ rv = .string (bs rs) ∧ RjR l w m a cap n rs wr
def RjPost (l : List UInt8) (w : World) (e : Ending) (w' : World) : Prop :=
  ∃ (a : Option Addr) (cap : Nat), e = .returned (.tuple #[.slice a (rdJ l).1.length cap, .int .i64 ((rdJ l).2 : Nat)]) ∧ Own3 w' w.heap.size a cap (rdJ l).1 ∧ w.grownBy w' none
theorem RjR.grown {l rs : List UInt8} {w wr w' : World} {m : List Dd} {a : Option Addr} {cap n : Nat} (h : RjR l w m a cap n rs wr) (g : wr.grownBy w' none) : RjR l w m a cap n rs w' :=
  ⟨h.1, h.2.1, h.2.2.1, h.2.2.2.1.kept g, grownBy_trans h.2.2.2.2 g⟩
theorem RjR.fin {l rs : List UInt8} {w wr : World} {m : List Dd} {a : Option Addr} {cap n : Nat} (h : RjR l w m a cap n rs wr) (k : rdJ rs = ([], 0)) : RjPost l w (.returned (.tuple #[.slice a m.length cap, .int .i64 (n : Nat)])) wr := by
  obtain ⟨_, h2, _, h4, h5⟩ := h
  rw [k] at h2
  simp only [List.append_nil, Nat.add_zero] at h2
  unfold RjPost
  rw [h2]
  exact ⟨a, cap, rfl, h4, h5⟩
theorem rj_wrap {l : List UInt8} {w wr : World} {v : Value} {x : Int} {n : Nat} (h : x = (n : Int)) (k : RjPost l w (.returned (.tuple #[v, .int .i64 (n : Nat)])) wr) : RjPost l w (.returned (.tuple #[v, .int .i64 x])) wr := by rw [h]; exact k
theorem RjR.next {l t r : List UInt8} {w wr : World} {m : List Dd} {a a' : Option Addr} {cap cap' n : Nat} {D : Dd} {w' : World} (h : RjR l w m a cap n (t ++ 10 :: r) wr) (ht : ∀ d ∈ t, d ≠ (10 : UInt8)) (k : rdD t = some D) (ho : Own3 w' w.heap.size a' cap' (m ++ [D])) (hg : w.grownBy w' none) : RjR l w (m ++ [D]) a' cap' (n + (t.length + 1)) r w' := by
  obtain ⟨h1, h2, h3, _, _⟩ := h
  rw [j_yes r ht k] at h2
  refine ⟨by simp at h1; omega, ?_, by simp; omega, ho, hg⟩
  rw [h2, List.append_assoc]
  simp only [List.singleton_append, Prod.mk.injEq, true_and]
  omega

set_option maxRecDepth 8000 in
set_option maxHeartbeats 4000000 in
theorem irj_any (l : List UInt8) (hl : l.length ≤ 1099511627776) (w : World) (hT : WdAt w) (hE : ErAt w) :
    Calls Tryz.prog 9 #[.string (bs l)] w (RjPost l w) := by
  have HT := Lib.hid hT
  have HE := Lib.hid hE
  have HL := Lib.hid hl
  clear hT hE hl
  obtain ⟨i0, hi, hz0, hz1, hz2⟩ := info_parts infoDd
  obtain ⟨s, hs⟩ : ∃ s, s = bs l := ⟨_, rfl⟩
  have HSz := Lib.hid (show s.size = l.length by rw [hs, bs_size])
  have HS := Lib.hid hs
  rw [← hs]
  clear hs
  go_enter Tryz.func9, Tryz.ntmps9
  go_wp2_with fail
  go_loopw [4, 5] (fun lv rv wr => RjRel l w lv rv wr) (fun _ rv _ => strLen rv)
  case atStart => exact ⟨[], none, 0, 0, l, rfl, by rw [HS.out], by omega, by simp, by simp, Own3.nil _ _, grownBy_refl _ _⟩
  case round =>
    obtain ⟨m, a, cap, n, rs, rfl, rfl, hR⟩ := hrel
    have HR := Lib.hid hR
    have hn := hR.1
    have hmn := Lib.hid hR.2.2.1
    have HN := Lib.hid hn
    have hRL : Hid (rs.length ≤ L48) := Lib.hid (by have := HL.out; unfold L48; omega)
    clear hR
    obtain ⟨R, hRr⟩ : ∃ R, R = bs rs := ⟨_, rfl⟩
    have HRr := Lib.hid hRr
    have HRs := Lib.hid (show R.size = rs.length by rw [hRr, bs_size])
    have hw : wrap64 ((s.size : Int) - (R.size : Int)) = (n : Int) := by rw [HSz.out, HRs.out]; have := HL.out; unfold wrap64; omega
    rcases cut_ways 10 rs with hmiss | ⟨t, r, e, ht⟩
    · have cc := fun w => cut_v rs 10 _ _ _ (cut_miss hmiss) w hRL.out
      obtain ⟨K, N, T, b, hv⟩ := rdV_ways rs
      have cd := fun w hT hE => ird_v rs _ hv w hT hE hRL.out
      rw [← hRr] at cc cd ⊢
      rw [show bs ([] : List UInt8) = ⟨#[]⟩ from rfl] at cc
      have hfin := Lib.hid (j_miss hmiss)
      clear hmiss hv hRr hn
      have HR1 := Lib.hid (fun w1 (g : wr.grownBy w1 none) => HR.out.grown g)
      go_wp2_with fail
      refine (cc _).mono ?_
      rintro e w1 ⟨rfl, g1⟩
      have G1 := Lib.hid g1
      clear g1 cc
      go_wp2_with fail
      refine (cd _ (HT.out.grown (HR.out.grown G1.out).2.2.2.2) (HE.out.grown (HR.out.grown G1.out).2.2.2.2)).mono ?_
      rintro e w2 ⟨rfl, g2⟩
      have G2 := Lib.hid (grownBy_trans (grownBy_trans G1.out g2) (World.grownBy_alloc w2 (.cells #[.int .i64 K, .int .i64 N, .string (bs T)] 40) none))
      clear g2 cd
      go_wp2_with fail
      refine bodyPost_ret (results_tmp2 rfl _ _ _) rfl ?_
      exact rj_wrap hw ((HR.out.grown G2.out).fin hfin.out)
    · subst e
      have ecut := cut_hit r ht
      have cc := fun w => cut_v (t ++ 10 :: r) 10 _ _ _ ecut w hRL.out
      have hlt : t.length ≤ L48 := by have := hRL.out; simp at this; omega
      cases hq : rdD t with
      | none =>
        have cd := fun w hT hE => ird_v t _ (rdV_none hq) w hT hE hlt
        rw [← hRr] at cc ⊢
        unfold ddV nilDd at cd
        rw [show bs ([] : List UInt8) = ⟨#[]⟩ from rfl] at cd
        have hfin := Lib.hid (j_no r ht hq)
        clear hq hRr hn ht ecut hlt
        generalize bs t = U at *
        generalize bs r = V at *
        go_wp2_with fail
        refine (cc _).mono ?_
        rintro e w1 ⟨rfl, g1⟩
        have G1 := Lib.hid g1
        clear g1 cc
        go_wp2_with fail
        refine (cd _ (HT.out.grown (HR.out.grown G1.out).2.2.2.2) (HE.out.grown (HR.out.grown G1.out).2.2.2.2)).mono ?_
        rintro e w2 ⟨rfl, g2⟩
        have G2 := Lib.hid (grownBy_trans (grownBy_trans G1.out g2) (World.grownBy_alloc w2 (.cells #[.int .i64 0, .int .i64 0, .string ⟨#[]⟩] 40) none))
        clear g2 cd
        go_wp2_with fail
        refine bodyPost_ret (results_tmp2 rfl _ _ _) rfl ?_
        exact rj_wrap hw ((HR.out.grown G2.out).fin hfin.out)
      | some D =>
        obtain ⟨K, N, T⟩ := D
        have cd := fun w hT hE => ird_v t _ (rdV_some hq) w hT hE hlt
        rw [← hRr] at cc ⊢
        unfold ddV at cd
        have HTn := Lib.hid ht
        have HQ := Lib.hid hq
        obtain ⟨V, hV⟩ : ∃ V, V = bs r := ⟨_, rfl⟩
        have HV := Lib.hid hV
        have hVs : Hid (V.size < R.size) := Lib.hid (by rw [hV, bs_size, HRs.out]; simp; omega)
        rw [← hV] at cc
        clear hq hRr hn ht ecut hlt hV
        generalize bs t = U at *
        go_wp2_with fail
        refine (cc _).mono ?_
        rintro e w1 ⟨rfl, g1⟩
        have G1 := Lib.hid g1
        clear g1 cc
        go_wp2_with fail
        refine (cd _ (HT.out.grown (HR.out.grown G1.out).2.2.2.2) (HE.out.grown (HR.out.grown G1.out).2.2.2.2)).mono ?_
        rintro e w2 ⟨rfl, g2⟩
        have gA := World.grownBy_alloc w2 (.cells #[.int .i64 K, .int .i64 N, .string (bs T)] 40) none
        have gB := World.grownBy_alloc (w2.alloc (.cells #[.int .i64 K, .int .i64 N, .string (bs T)] 40)) (.cells #[.int .i64 K, .int .i64 N, .string (bs T)] 40) none
        have HR2 := Lib.hid (HR.out.grown (grownBy_trans (grownBy_trans (grownBy_trans G1.out g2) gA) gB))
        have HN2 := Lib.hid (CellsAt.second w2 (.cells #[.int .i64 K, .int .i64 N, .string (bs T)] 40) #[.int .i64 K, .int .i64 N, .string (bs T)] 40)
        have hsz := HR2.out.2.2.2.2.size
        have hm1 : m.length + 1 ≤ 1099511627777 := by have := hmn.out; have := HN.out; have := HL.out; omega
        clear g2 cd gA gB
        go_wp2_with (at_builtin; refine wpList_append_own _ rfl _ _ 24 rfl w.heap.size 40 i0 (.agg #[.int .i64 0, .int .i64 0, .string ⟨#[]⟩]) 3 32 Tryz.underlying24 hi hz0 hz1 hz2 rfl (by decide) _ _ _ rfl HR2.out.2.2.2.1 ⟨w2.heap.size + 1, 0, none⟩ 1 1 (ddC [(K, N, T)]) rfl rfl (ddC_news HN2.out) (ddC_one [(K, N, T)]) (by unfold maxLen; omega) (by omega) hsz ?_; intro v' w4 hown' hgrow _; obtain ⟨a4, cap4, rfl, ho4⟩ := own3_more hown'; have HR4 := Lib.hid (HR2.out.next HTn.out HQ.out ho4 (grow_own3 HR2.out.2.2.2.2 HR2.out.2.2.2.1 (Nat.le_refl _) hgrow)); clear hown' hgrow ho4)
        go_roundw
        case rel => exact ⟨m ++ [(K, N, T)], a4, cap4, n + (t.length + 1), r, by simp, by rw [HV.out], HR4.out⟩
        case measure => simp only [strLen]; exact hVs.out

end Go.Proofs.YtlnffpofbfigaaaGreatDoor

/-
  Journals read: the model's.
-/
namespace Go.Proofs.YtlnffpofbfigaaaGreatDoor
open Go.RowKit

def SjR (l : List UInt8) (w : World) (m : List Dd) (a : Option Addr) (cap f k : Nat) (wr : World) : Prop :=
  rdJ l = (m ++ (goJ ((l.drop f).take (k - f)) (l.drop k)).1, f + (goJ ((l.drop f).take (k - f)) (l.drop k)).2) ∧ Own3 wr w.heap.size a cap m ∧ w.grownBy wr none
def SjRel (l : List UInt8) (w : World) (ov fv kv : Value) (wr : World) : Prop :=
  ∃ (m : List Dd) (a : Option Addr) (cap f k : Nat), f ≤ k ∧ k ≤ l.length ∧ m.length ≤ f ∧ ov = .slice a m.length cap ∧ fv = .int .i64 f ∧ kv = .int .i64 k ∧ SjR l w m a cap f k wr
theorem SjR.grown {l : List UInt8} {w wr w' : World} {m : List Dd} {a : Option Addr} {cap f k : Nat} (h : SjR l w m a cap f k wr) (g : wr.grownBy w' none) : SjR l w m a cap f k w' :=
  ⟨h.1, h.2.1.kept g, grownBy_trans h.2.2 g⟩
theorem sj_fin {l : List UInt8} {w wr : World} {m : List Dd} {a : Option Addr} {cap f : Nat} (h : rdJ l = (m, f)) (ho : Own3 wr w.heap.size a cap m) (hg : w.grownBy wr none) : RjPost l w (.returned (.tuple #[.slice a m.length cap, .int .i64 (f : Nat)])) wr := by
  unfold RjPost
  rw [h]
  exact ⟨a, cap, rfl, ho, hg⟩
theorem SjR.end_ {l : List UInt8} {w wr : World} {m : List Dd} {a : Option Addr} {cap f : Nat} (h : SjR l w m a cap f l.length wr) : rdJ l = (m, f) := by
  have := h.1
  rw [List.drop_length, goJ_nil] at this
  simpa using this
theorem SjR.no {l r : List UInt8} {w wr : World} {m : List Dd} {a : Option Addr} {cap f k : Nat} (h : SjR l w m a cap f k wr) (hd : l.drop k = 10 :: r) (hq : rdD ((l.drop f).take (k - f)) = none) : rdJ l = (m, f) := by
  have := h.1
  rw [hd, goJ_no r hq] at this
  simpa using this
theorem SjR.yes {l r : List UInt8} {w wr w' : World} {m : List Dd} {a a' : Option Addr} {cap cap' f k : Nat} {D : Dd} (h : SjR l w m a cap f k wr) (hfk : f ≤ k) (hk : k < l.length) (hd : l.drop k = 10 :: r) (hq : rdD ((l.drop f).take (k - f)) = some D) (ho : Own3 w' w.heap.size a' cap' (m ++ [D])) (hg : w.grownBy w' none) : SjR l w (m ++ [D]) a' cap' (k + 1) (k + 1) w' := by
  have := h.1
  have hd1 : l.drop (k + 1) = r := by rw [← List.drop_drop, hd]; rfl
  rw [hd, goJ_yes r hq] at this
  refine ⟨?_, ho, hg⟩
  rw [this, hd1, Nat.sub_self, List.take_zero, List.append_assoc]
  have hl : ((l.drop f).take (k - f)).length = k - f := by simp; omega
  rw [hl]
  simp only [List.singleton_append, Prod.mk.injEq, true_and]
  omega
theorem SjR.more {l r : List UInt8} {w wr : World} {m : List Dd} {a : Option Addr} {cap f k : Nat} {c : UInt8} (h : SjR l w m a cap f k wr) (hfk : f ≤ k) (hd : l.drop k = c :: r) (hc : c ≠ 10) : SjR l w m a cap f (k + 1) wr := by
  have := h.1
  have hd1 : l.drop (k + 1) = r := by rw [← List.drop_drop, hd]; rfl
  have hk : l[k]? = some c := by have := congrArg (fun x => x[0]?) hd; simpa using this
  rw [hd, goJ_more _ r hc] at this
  refine ⟨?_, h.2⟩
  rw [this, hd1, show k + 1 - f = (k - f) + 1 by omega, List.take_add_one, List.getElem?_drop, show f + (k - f) = k by omega, hk]
  rfl

set_option maxRecDepth 100000 in
set_option maxHeartbeats 4000000 in
theorem srj_any (l : List UInt8) (hl : l.length ≤ 2097152) (w : World) :
    Calls Tryz.prog 10 #[.string (bs l)] w (RjPost l w) := by
  have hz := bs_size l
  obtain ⟨i0, hi, hz0, hz1, hz2⟩ := info_parts infoDd
  go_enter Tryz.func10, Tryz.ntmps10
  go_wp2_with fail
  go_loopw [4, 5, 6] (fun ov fv kv wr => SjRel l w ov fv kv wr) (fun _ _ kv _ => l.length - (intOf kv).toNat)
  case atStart => exact ⟨[], _, 0, 0, 0, by omega, by omega, by simp, rfl, rfl, rfl, by simp [rdJ], Own3.made w, World.grownBy_alloc w _ none⟩
  case round =>
    obtain ⟨m, a, cap, f, k, hfk, hkl, hmf, rfl, rfl, rfl, hS⟩ := hrel
    have HS := Lib.hid hS
    have e9 := ext_bs l f k
    clear hS
    by_cases hlt : k < l.length
    · obtain ⟨c, r, hd⟩ : ∃ c r, l.drop k = c :: r := by
        cases hx : l.drop k with
        | nil => have := congrArg List.length hx; simp at this; omega
        | cons c r => exact ⟨c, r, rfl⟩
      have hidx := idx_run (s := bs l) (p := k) hd
      have w1 : wrap64 ((k : Int) + 1) = (k : Int) + 1 := by unfold wrap64; omega
      have HD := Lib.hid hd
      by_cases hc : c = 10
      · subst hc
        have htl : ((l.drop f).take (k - f)).length ≤ 2097152 := by simp; omega
        cases hq : rdD ((l.drop f).take (k - f)) with
        | none =>
          have cd := fun w => srd_v _ _ (rdV_none hq) w htl
          rw [← e9] at cd
          unfold ddV nilDd at cd
          rw [show bs ([] : List UInt8) = ⟨#[]⟩ from rfl] at cd
          have hfin := Lib.hid (HS.out.no HD.out hq)
          clear hq htl hd e9
          go_wp2_with fail
          refine (cd _).mono ?_
          rintro e w2 ⟨rfl, g2⟩
          have S2 := Lib.hid (HS.out.grown (grownBy_trans g2 (World.grownBy_alloc w2 (.cells #[.int .i64 0, .int .i64 0, .string ⟨#[]⟩] 40) none)))
          clear g2
          go_wp2_with fail
          refine bodyPost_ret (results_tmp2 rfl _ _ _) rfl ?_
          exact sj_fin hfin.out S2.out.2.1 S2.out.2.2
        | some D =>
          obtain ⟨K, N, T⟩ := D
          have cd := fun w => srd_v _ _ (rdV_some hq) w htl
          rw [← e9] at cd
          unfold ddV at cd
          have HQ := Lib.hid hq
          clear hq htl hd e9
          go_wp2_with fail
          refine (cd _).mono ?_
          rintro e w2 ⟨rfl, g2⟩
          have gA := World.grownBy_alloc w2 (.cells #[.int .i64 K, .int .i64 N, .string (bs T)] 40) none
          have gB := World.grownBy_alloc (w2.alloc (.cells #[.int .i64 K, .int .i64 N, .string (bs T)] 40)) (.cells #[.int .i64 K, .int .i64 N, .string (bs T)] 40) none
          have S2 := Lib.hid (HS.out.grown (grownBy_trans (grownBy_trans g2 gA) gB))
          have HN2 := Lib.hid (CellsAt.second w2 (.cells #[.int .i64 K, .int .i64 N, .string (bs T)] 40) #[.int .i64 K, .int .i64 N, .string (bs T)] 40)
          have hsz := S2.out.2.2.size
          have hm1 : m.length + 1 ≤ 2097153 := by omega
          clear g2 gA gB
          go_wp2_with (at_builtin; refine wpList_append_own _ rfl _ _ 24 rfl w.heap.size 40 i0 (.agg #[.int .i64 0, .int .i64 0, .string ⟨#[]⟩]) 3 32 Tryz.underlying24 hi hz0 hz1 hz2 rfl (by decide) _ _ _ rfl S2.out.2.1 ⟨w2.heap.size + 1, 0, none⟩ 1 1 (ddC [(K, N, T)]) rfl rfl (ddC_news HN2.out) (ddC_one [(K, N, T)]) (by unfold maxLen; omega) (by omega) hsz ?_; intro v' w4 hown' hgrow _; obtain ⟨a4, cap4, rfl, ho4⟩ := own3_more hown'; have S4 := Lib.hid (S2.out.yes hfk hlt HD.out HQ.out ho4 (grow_own3 S2.out.2.2 S2.out.2.1 (Nat.le_refl _) hgrow)); clear hown' hgrow ho4)
          go_roundw
          case rel => exact ⟨m ++ [(K, N, T)], a4, cap4, k + 1, k + 1, by omega, by omega, by simp; omega, by simp, by go_num, by go_num, S4.out⟩
          case measure => simp [intOf]; omega
      · have hne : ((c.toNat : Int) == 10) = false := beq_false_of_ne fun e => hc (UInt8.toNat_inj.1 (by simpa using (by exact_mod_cast e : c.toNat = 10)))
        have hne2 : ¬ (c.toNat = 10) := fun e => hc (UInt8.toNat_inj.1 (by simpa using e))
        have S2 := Lib.hid (HS.out.more hfk HD.out hc)
        clear hd e9 hc
        go_wp2_with fail
        go_roundw
        case rel => exact ⟨m, a, cap, f, k + 1, by omega, by omega, hmf, rfl, rfl, by go_num, S2.out⟩
        case measure => simp [intOf]; omega
    · obtain rfl : k = l.length := by omega
      have hfin := Lib.hid HS.out.end_
      clear e9
      go_wp2_with fail
      refine bodyPost_ret (results_tmp2 rfl _ _ _) rfl ?_
      exact sj_fin hfin.out HS.out.2.1 HS.out.2.2

end Go.Proofs.YtlnffpofbfigaaaGreatDoor

/-
  Rows of deeds marked, and marked rows of deeds read again.
-/
namespace Go.Proofs.YtlnffpofbfigaaaGreatDoor
open Go.RowKit

/-- The deeds that the laws write into a row, from the mark k on. -/
def mkQ (k : Nat) (i : Nat) : Dd := (((k + 3 * i : Nat) : Int), ((k + 3 * i + 1 : Nat) : Int), mtx (k + 3 * i + 2))
def mkRow3 (k n : Nat) : List Dd := (List.range n).map (mkQ k)
theorem mkRow3_len (k n : Nat) : (mkRow3 k n).length = n := by simp [mkRow3]
theorem mkRow3_at (k n i : Nat) (h : i < n) : (mkRow3 k n).getD i nilDd = mkQ k i := by simp [mkRow3, List.getD_eq_getElem?_getD, h]
/-- The row while it is marked: the first i are. -/
def MkCur3 (cur : Array Value) (off k n i : Nat) : Prop :=
  (∀ j, j < i → cur[off + j * 3]? = some (.int .i64 (mkQ k j).1) ∧ cur[off + j * 3 + 1]? = some (.int .i64 (mkQ k j).2.1) ∧ cur[off + j * 3 + 2]? = some (.string (bs (mkQ k j).2.2))) ∧ ∀ j, i ≤ j → j < n → ∃ u v x, cur[off + j * 3]? = some u ∧ cur[off + j * 3 + 1]? = some v ∧ cur[off + j * 3 + 2]? = some x
theorem MkCur3.next {cur : Array Value} {off k n i : Nat} (h : MkCur3 cur off k n i) (hi : i < n) : MkCur3 (((cur.setIfInBounds (off + i * 3) (.int .i64 (mkQ k i).1)).setIfInBounds (off + i * 3 + 1) (.int .i64 (mkQ k i).2.1)).setIfInBounds (off + i * 3 + 2) (.string (bs (mkQ k i).2.2))) off k n (i + 1) := by
  obtain ⟨u, v, x, hu, hv, hx⟩ := h.2 i (Nat.le_refl _) hi
  have su := (Array.getElem?_eq_some_iff.1 hu).1
  have sv := (Array.getElem?_eq_some_iff.1 hv).1
  have sx := (Array.getElem?_eq_some_iff.1 hx).1
  refine ⟨fun j hj => ?_, fun j hj hn => ?_⟩
  · by_cases e : j = i
    · subst e
      refine ⟨?_, ?_, ?_⟩
      · rw [Array.getElem?_setIfInBounds_ne (by omega), Array.getElem?_setIfInBounds_ne (by omega), Array.getElem?_setIfInBounds_self_of_lt su]
      · rw [Array.getElem?_setIfInBounds_ne (by omega), Array.getElem?_setIfInBounds_self_of_lt (by simpa using sv)]
      · rw [Array.getElem?_setIfInBounds_self_of_lt (by simpa using sx)]
    · have := h.1 j (by omega)
      refine ⟨?_, ?_, ?_⟩
      · rw [Array.getElem?_setIfInBounds_ne (by omega), Array.getElem?_setIfInBounds_ne (by omega), Array.getElem?_setIfInBounds_ne (by omega)]; exact this.1
      · rw [Array.getElem?_setIfInBounds_ne (by omega), Array.getElem?_setIfInBounds_ne (by omega), Array.getElem?_setIfInBounds_ne (by omega)]; exact this.2.1
      · rw [Array.getElem?_setIfInBounds_ne (by omega), Array.getElem?_setIfInBounds_ne (by omega), Array.getElem?_setIfInBounds_ne (by omega)]; exact this.2.2
  · obtain ⟨x, y, z, h1, h2, h3⟩ := h.2 j (by omega) hn
    refine ⟨x, y, z, ?_, ?_, ?_⟩
    · rw [Array.getElem?_setIfInBounds_ne (by omega), Array.getElem?_setIfInBounds_ne (by omega), Array.getElem?_setIfInBounds_ne (by omega)]; exact h1
    · rw [Array.getElem?_setIfInBounds_ne (by omega), Array.getElem?_setIfInBounds_ne (by omega), Array.getElem?_setIfInBounds_ne (by omega)]; exact h2
    · rw [Array.getElem?_setIfInBounds_ne (by omega), Array.getElem?_setIfInBounds_ne (by omega), Array.getElem?_setIfInBounds_ne (by omega)]; exact h3

def MkRel3 (k n g off : Nat) (w : World) (kv iv : Value) (wr : World) : Prop :=
  ∃ (i : Nat) (cur : Array Value), i ≤ n ∧ kv = .int .i64 ((k + 3 * i : Nat) : Int) ∧ iv = .int .i64 i ∧ wr.heap[g]? = some (.cells cur 40 (0, 0)) ∧ MkCur3 cur off k n i ∧ w.grownBy wr (some g)
theorem heap_put3 {W : World} {g j : Nat} {cur : Array Value} {v : Value} (h : W.heap[g]? = some (.cells cur 40 (0, 0))) : (W.setCell ⟨g, j, none⟩ v).heap[g]? = some (.cells (cur.setIfInBounds j v) 40 (0, 0)) := CellsAt.set (T := 40) h j v

/-- What is left of a row of deeds that was marked; nothing else changed but its own block. -/
def Marked3 (a : Option Addr) (k n : Nat) (w w' : World) : Prop := DdsAt w' a (mkRow3 k n) ∧ ∃ row : Option Nat, (∀ g, row = some g → 0 < n ∧ ∃ x, a = some x ∧ x.block = g) ∧ w.grownBy w' row

end Go.Proofs.YtlnffpofbfigaaaGreatDoor

/-
  Marked rows of deeds read again; the walk of FnExactReadJournal.
-/
namespace Go.Proofs.YtlnffpofbfigaaaGreatDoor
open Go.RowKit

def HdRel3 (k n : Nat) (w : World) (kv iv : Value) (wr : World) : Prop := ∃ i : Nat, i ≤ n ∧ kv = .int .i64 ((k + 3 * i : Nat) : Int) ∧ iv = .int .i64 i ∧ w.grownBy wr none

theorem own3_apart {w1 w2 : World} {base : Nat} {a b : Option Addr} {ca cb : Nat} {x y : List Dd} (h1 : Own3 w1 base a ca x) (h2 : Own3 w2 w1.heap.size b cb y) :
    ∀ z, a = some z → some z.block ≠ (Value.slice b y.length cb).ownBlock := by
  intro z hz e
  subst hz
  have l1 := World.ownsRow.lt h1 z.block rfl
  have l2 := World.ownsRow.lt h2 z.block e.symm
  omega

theorem marked_apart {ay ax : Option Addr} {n cap N : Nat} {row : Option Nat} (ha : ∀ z, ay = some z → some z.block ≠ (Value.slice ax n cap).ownBlock) (hrow : ∀ g, row = some g → 0 < N ∧ ∃ x, ax = some x ∧ x.block = g) : ∀ z, ay = some z → some z.block ≠ row := by
  intro z hz e
  obtain ⟨_, x, hx, hb⟩ := hrow z.block e.symm
  exact ha z hz (by rw [hx]; simp [Value.ownBlock, hb])
theorem grown_row {w W W' : World} {row : Option Nat} (g : w.grownBy W none) (h : W.grownBy W' row) (hr : ∀ b, row = some b → w.heap.size ≤ b) : w.grownBy W' none :=
  ⟨h.os.trans g.os, h.tape.trans g.tape, h.output.trans g.output, Nat.le_trans g.size h.size, fun k hk _ => (h.block k (Nat.lt_of_lt_of_le hk g.size) (fun e => by have := hr k e.symm; omega)).trans (g.block k hk (by simp))⟩
theorem row_above {W : World} {base B cap N : Nat} {ax : Option Addr} {m : List Dd} {row : Option Nat} (ho : Own3 W base ax cap m) (hB : B ≤ base) (hrow : ∀ g, row = some g → 0 < N ∧ ∃ x, ax = some x ∧ x.block = g) : ∀ b, row = some b → B ≤ b := by
  intro b hb
  obtain ⟨_, x, rfl, hx⟩ := hrow b hb
  have := (World.ownsRow.lt ho x.block (by simp [Value.ownBlock])).1
  omega
theorem jL_ge : ∀ m : List Dd, m.length ≤ (jL m).length
  | [] => by simp
  | a :: m => by
    have := jL_ge m
    simp only [jL, List.length_append, List.length_cons]
    omega
theorem rdJ_len {l : List UInt8} {m : List Dd} {k : Nat} (h : rdJ l = (m, k)) : m.length ≤ l.length := by
  have h2 : jL m = l.take k := by
    have := (j_text l).2.1
    rw [h] at this
    exact this
  have h1 := jL_ge m
  have := congrArg List.length h2
  rw [List.length_take] at this
  omega
theorem irj_is2 (l : List UInt8) (m : List Dd) (k : Nat) (h : rdJ l = (m, k)) (hl : l.length ≤ 1099511627776) (w : World) (hT : WdAt w) (hE : ErAt w) :
    Calls Tryz.prog 9 #[.string (bs l)] w fun e w' => ∃ (a : Option Addr) (cap : Nat), e = .returned (.tuple #[.slice a m.length cap, .int .i64 k]) ∧ Own3 w' w.heap.size a cap m ∧ w.grownBy w' none := by
  have hh := irj_any l hl w hT hE
  unfold RjPost at hh
  rw [h] at hh
  exact hh
theorem srj_is (l : List UInt8) (m : List Dd) (k : Nat) (h : rdJ l = (m, k)) (hl : l.length ≤ 2097152) (w : World) :
    Calls Tryz.prog 10 #[.string (bs l)] w fun e w' => ∃ (a : Option Addr) (cap : Nat), e = .returned (.tuple #[.slice a m.length cap, .int .i64 k]) ∧ Own3 w' w.heap.size a cap m ∧ w.grownBy w' none := by
  have hh := srj_any l hl w
  unfold RjPost at hh
  rw [h] at hh
  exact hh

end Go.Proofs.YtlnffpofbfigaaaGreatDoor

/-
  The draw of a deed's text, as it is or spoilt.
-/
namespace Go.Proofs.YtlnffpofbfigaaaGreatDoor
open Go.RowKit

def SpPost (n r P : Nat) (w : World) (e : Ending) (w' : World) : Prop := ∃ l : List UInt8, e = .returned (.string (bs l)) ∧ l.length ≤ n ∧ Rd w' r (P + 2) ∧ w.grownBy w' (some r)
def spoL (j : Nat) : List UInt8 := [[], [48], [32], [10], [45], [98, 97, 99, 107]].getD j []
theorem spoL_len {j : Nat} (h : j < 6) : (spoL j).length ≤ 4 := by
  match j, h with
  | 0, _ => decide
  | 1, _ => decide
  | 2, _ => decide
  | 3, _ => decide
  | 4, _ => decide
  | 5, _ => decide
theorem spo_cell {W : World} {b j : Nat} (h : CellsAt W b #[.string ⟨#[]⟩, .string ⟨#[48]⟩, .string ⟨#[32]⟩, .string ⟨#[10]⟩, .string ⟨#[45]⟩, .string ⟨#[98, 97, 99, 107]⟩] 9) (hj : j < 6) : W.cell? ⟨b, j, none⟩ = some (.string (bs (spoL j))) := by
  match j, hj with
  | 0, _ => exact h.cell rfl
  | 1, _ => exact h.cell rfl
  | 2, _ => exact h.cell rfl
  | 3, _ => exact h.cell rfl
  | 4, _ => exact h.cell rfl
  | 5, _ => exact h.cell rfl

theorem sp_new {J : Nat} (h : J < 6) (W : World) : (W.alloc (.cells #[.string ⟨#[]⟩, .string ⟨#[48]⟩, .string ⟨#[32]⟩, .string ⟨#[10]⟩, .string ⟨#[45]⟩, .string ⟨#[98, 97, 99, 107]⟩] 9)).cell? ⟨W.heap.size, J, none⟩ = some (.string (bs (spoL J))) := spo_cell (CellsAt.new W _ _) h
theorem sp_old {J r : Nat} (h : J < 6) {W w2 : World} (hg : (W.alloc (.cells #[.string ⟨#[]⟩, .string ⟨#[48]⟩, .string ⟨#[32]⟩, .string ⟨#[10]⟩, .string ⟨#[45]⟩, .string ⟨#[98, 97, 99, 107]⟩] 9)).drew.grownBy w2 (some r)) (hlt : r < W.heap.size) : w2.cell? ⟨W.heap.size, J, none⟩ = some (.string (bs (spoL J))) := spo_cell ((CellsAt.new W _ _).kept (show (W.alloc _).grownBy w2 (some r) from ⟨hg.os, hg.tape, hg.output, hg.size, hg.block⟩) (by simp; omega)) h
theorem sp_undrew {a b : World} {r : Nat} (h : a.drew.grownBy b (some r)) : a.grownBy b (some r) := ⟨h.os, h.tape, h.output, h.size, h.block⟩
theorem wrapK {K n : Nat} (h : K < n) (hn : n ≤ 1000) : wrap64 ((K : Int) + 1) = (K : Int) + 1 := by unfold wrap64; omega
theorem six_of {J : Nat} (h : (J : Int) < 6 ∨ (J : Int) = 0) : J < 6 := by omega

theorem sl_hi (s : ByteArray) (K : Nat) (h : K + 1 ≤ s.size) (W : World) : (Instr.sliceAt 9 (.string s) (some (.int .i64 ((K : Int) + 1))) none none).run Tryz.prog W = .ok (.string (s.extract (K + 1) s.size)) W := by
  have f3 : (0 : Int) ≤ (K : Int) + 1 := by omega
  have f4 : (K : Int) + 1 ≤ (s.size : Int) := by omega
  have f9 : ((K : Int) + 1).toNat = K + 1 := by omega
  go_simp
theorem sl_lo (s : ByteArray) (K : Nat) (h : K ≤ s.size) (W : World) : (Instr.sliceAt 9 (.string s) none (some (.int .i64 (K : Int))) none).run Tryz.prog W = .ok (.string (s.extract 0 K)) W := by
  have f4 : (K : Int) ≤ (s.size : Int) := by omega
  go_simp
def SpcPost (s : ByteArray) (n r P : Nat) (w : World) (e : Ending) (w' : World) : Prop := ∃ J K : Nat, J < 6 ∧ K < n ∧ e = .returned (.string (s.extract 0 K ++ bs (spoL J) ++ s.extract (K + 1) s.size)) ∧ Rd w' r (P + 2) ∧ w.grownBy w' (some r)

set_option maxRecDepth 8000 in
set_option maxHeartbeats 4000000 in
theorem spoil_core (s : ByteArray) (n : Nat) (hs : Hid (s.size = n)) (hl : n ≤ 1000) (hn0 : 0 < n) (w : World) (r P : Nat) (hr : Rd w r P) (hP : P ≤ 60000) :
    Calls Tryz.prog 42 #[.pointer (some ⟨r, 0, none⟩), .string s] w (SpcPost s n r P w) := by
  have hlt := hr.lt
  have e0 : ((s.size : Int) == 0) = false := beq_false_of_ne (by have := hs.out; omega)
  have cp : ∀ w, Rd w r P → Calls Tryz.prog 41 #[.pointer (some ⟨r, 0, none⟩), .int .i64 (s.size : Int)] w (fun e w' => ∃ k : Nat, e = .returned (.int .i64 k) ∧ k < n ∧ Rd w' r (P + 1) ∧ w.grownBy w' (some r)) := fun w hr => by
    rw [hs.out]
    refine (pick_any _ _ _ _ hr (by omega)).mono ?_
    rintro e w1 ⟨k, rfl, hk0, hk1, hr1, hg1⟩
    obtain ⟨K, rfl⟩ := Int.eq_ofNat_of_zero_le hk0
    exact ⟨K, rfl, by omega, hr1, hg1⟩
  go_enter Tryz.func42, Tryz.ntmps42
  go_wp2_with fail
  refine (cp _ hr).mono ?_
  rintro e w1 ⟨K, rfl, hK, hr1, hg1⟩
  clear cp e0
  have hlt1 := hr1.lt
  have hKs : K + 1 ≤ s.size := by have := hs.out; omega
  have w1' := wrapK hK hl
  have w2' : IntKind.i64.wrap ((K : Int) + 1) = (K : Int) + 1 := IntWalk.i64_in _ (by omega)
  obtain ⟨E1, hE1⟩ : ∃ E, E = s.extract 0 K := ⟨_, rfl⟩
  obtain ⟨E2, hE2⟩ : ∃ E, E = s.extract (K + 1) s.size := ⟨_, rfl⟩
  have r1 := sl_lo s K (by omega)
  have r2 := sl_hi s K hKs
  rw [← hE1] at r1
  rw [← hE2] at r2
  have z1 : E1.size ≤ 1000 := by rw [hE1, ByteArray.size_extract]; have := hs.out; omega
  have z2 : E2.size ≤ 1000 := by rw [hE2, ByteArray.size_extract]; have := hs.out; omega
  have Z1 := Lib.hid z1
  have Z2 := Lib.hid z2
  have HE1 := Lib.hid hE1
  have HE2 := Lib.hid hE2
  clear z1 z2 hE1 hE2 hKs
  go_wp2_with fail
  have n0 := Lib.hid (fun (J : Nat) (h : J < 6) (W : World) => sp_new h W)
  have n9 := Lib.hid (fun (J : Nat) (h : J < 6) (W w2 : World) hg hlt => sp_old (r := r) (W := W) (w2 := w2) h hg hlt)
  go_region_with (first | (go_at_call 41; (with_reducible refine (pick_any 6 _ r (P + 1) (by first | with_reducible exact hr1.drewn | with_reducible exact (hr1.alloc _).drewn) (by omega)).mono ?_); rintro e w2 ⟨j, rfl, hj0, hj1, hr2, hg2⟩; obtain ⟨J, rfl⟩ := Int.eq_ofNat_of_zero_le hj0; have hJ := six_of hj1; have J6 : (J : Int) < 6 := (by omega); have n1 := n0.out J hJ w2; (first | (have n2 := n9.out J hJ _ _ hg2 hlt1) | skip); obtain ⟨T6, hT6⟩ : ∃ T, T = bs (spoL J) := ⟨_, rfl⟩; rw [← hT6] at n1; (first | (rw [← hT6] at n2) | skip); have o1 : ¬ (9223372036854775807 < E1.size + T6.size) := (by rw [hT6, bs_size]; have := spoL_len hJ; have := Z1.out; omega); have o2 : ¬ (9223372036854775807 < E1.size + T6.size + E2.size) := (by rw [hT6, bs_size]; have := spoL_len hJ; have := Z1.out; have := Z2.out; omega); have HT6 := Lib.hid hT6; clear hT6))
  all_goals go_wp2_with fail
  all_goals go_ret
  all_goals refine ⟨J, K, hJ, hK, by rw [← HE1.out, ← HE2.out, ← HT6.out]; rfl, ?_, ?_⟩
  all_goals first | exact hr2 | exact hr2.alloc _ | skip
  all_goals first | exact grownBy_trans hg1 (grownBy_trans (grown_none (World.grownBy_alloc _ _ none)) (sp_undrew hg2)) | exact grownBy_trans (grownBy_trans hg1 (sp_undrew hg2)) (grown_none (World.grownBy_alloc _ _ none))

theorem spoil_any (l : List UInt8) (hl : l.length ≤ 1000) (w : World) (r P : Nat) (hr : Rd w r P) (hP : P ≤ 60000) :
    Calls Tryz.prog 42 #[.pointer (some ⟨r, 0, none⟩), .string (bs l)] w (SpPost (l.length + 4) r P w) := by
  by_cases h0 : l.length = 0
  · have hl0 : l = [] := List.length_eq_zero_iff.1 h0
    subst hl0
    rw [show bs ([] : List UInt8) = ⟨#[]⟩ from rfl]
    go_enter Tryz.func42, Tryz.ntmps42
    go_wp2_with fail
    go_ret
    exact ⟨[10], rfl, by simp, hr.mono (by omega), grownBy_refl _ _⟩
  · refine (spoil_core (bs l) l.length (Lib.hid (bs_size l)) hl (by omega) w r P hr hP).mono ?_
    rintro e w' ⟨J, K, hJ, hK, rfl, hr', hg'⟩
    have := spoL_len hJ
    refine ⟨l.take K ++ spoL J ++ l.drop (K + 1), ?_, ?_, hr', hg'⟩
    · rw [ext_bs, ext_bs, bs_size, bs_app, bs_app]
      simp [List.take_of_length_le]
    · simp; omega

end Go.Proofs.YtlnffpofbfigaaaGreatDoor

/-
  The draw of a journal's text: as it is, spoilt or cut off.
-/
namespace Go.Proofs.YtlnffpofbfigaaaGreatDoor
open Go.RowKit

def DrjPost (w : World) (e : Ending) (w' : World) : Prop := ∃ l : List UInt8, e = .returned (.string (bs l)) ∧ l.length ≤ 1000 ∧ w.grownBy w' none
theorem sj_take (l : List UInt8) (J : Nat) : (bs l).extract 0 J = bs (l.take J) := by rw [ext_bs, List.drop_zero, Nat.sub_zero]
set_option maxRecDepth 8000 in
set_option maxHeartbeats 4000000 in
theorem DrawReadJournal_any (a : Option Addr) (len cap : Nat) (zs : List Int) (w : World) (h : IsRow .u8 w a len cap zs) :
    Calls Tryz.prog 8 #[.slice a len cap] w (DrjPost w) := by
  go_enter Tryz.func8, Tryz.ntmps8
  go_wp2_with fail
  refine (open_draw a len cap zs _ h).mono ?_
  rintro e w1 ⟨rfl, hr1, hg1⟩
  clear h
  go_wp2_with fail
  refine (written_draw _ _ _ hr1 (by omega)).mono ?_
  rintro e w2 ⟨m, a2, cap2, rfl, hm5, ho2, _, _, hr2, hg2⟩
  have HG := Lib.hid (grownBy_own hg1 hg2)
  clear hr1 hg1 hg2
  go_wp2_with fail
  refine (sjt_any m (by omega) a2 cap2 w2 ho2.at).mono ?_
  rintro e w3 ⟨rfl, hg3⟩
  have hr3 := hr2.grown hg3
  have HG3 := Lib.hid (grownBy_trans HG.out hg3)
  have hjl : (jT m).length ≤ 335 := by
    have := jL_len m
    unfold jT
    split
    · omega
    · simp
  generalize jT m = l at *
  clear hr2 hg3 ho2 hm5
  obtain ⟨S, hS⟩ : ∃ S, S = bs l := ⟨_, rfl⟩
  have HS := Lib.hid hS
  have hSz : Hid (S.size = l.length) := Lib.hid (by rw [hS, bs_size])
  rw [← hS]
  clear hS
  go_wp2_with fail
  refine (pick_any _ _ _ _ hr3 (by omega)).mono ?_
  rintro e w4 ⟨k, rfl, hk0, hk1, hr4, hg4⟩
  have HG4 := Lib.hid (grownBy_own HG3.out hg4)
  clear hg4 hr3
  rcases (by omega : k = 0 ∨ k = 1 ∨ (k ≠ 0 ∧ k ≠ 1)) with rfl | rfl | ⟨n0, n1⟩
  · have cs := spoil_any l (by omega) w4 _ _ hr4 (by omega)
    rw [← HS.out] at cs
    go_wp2_with fail
    refine cs.mono ?_
    rintro e w5 ⟨t, rfl, ht, hr5, hg5⟩
    go_wp2_with fail
    go_ret
    exact ⟨t, rfl, by omega, grownBy_own HG4.out hg5⟩
  · have hw : wrap64 ((S.size : Int) + 1) = (l.length : Int) + 1 := by rw [hSz.out]; unfold wrap64; omega
    go_wp2_with fail
    refine (pick_any _ _ _ _ hr4 (by omega)).mono ?_
    rintro e w5 ⟨j, rfl, hj0, hj1, hr5, hg5⟩
    obtain ⟨J, rfl⟩ := Int.eq_ofNat_of_zero_le hj0
    have hJ : J ≤ S.size := by rw [hSz.out]; omega
    have r1 := sl_lo S J hJ
    go_wp2_with fail
    go_ret
    exact ⟨l.take J, by rw [← sj_take, ← HS.out]; rfl, by rw [List.length_take]; omega, grownBy_own HG4.out hg5⟩
  · have e0 : (k == 0) = false := beq_false_of_ne n0
    have e1 : (k == 1) = false := beq_false_of_ne n1
    go_wp2_with fail
    go_ret
    exact ⟨l, by rw [← HS.out]; rfl, by omega, HG4.out⟩

end Go.Proofs.YtlnffpofbfigaaaGreatDoor

/-
  Journals as texts: the landed code's, written into a strings.Builder.
-/
namespace Go.Proofs.YtlnffpofbfigaaaGreatDoor
open Go.RowKit

theorem strC_bs (l : List UInt8) : Lib.strCells (bs l) = Lib.byteCells l := rfl
theorem below_gr {w w' : World} (h : w.grownBy w' none) : Below w.heap.size w w' := ⟨h.os, h.tape, h.output, h.size, fun k hk => h.block k hk (by simp)⟩
theorem builder_grown {T e : TypeId} {B b : Nat} {l : List Value} {w w' : World} (h : Lib.IsBuilder T e B b l w) (hg : w.grownBy w' none) : Lib.IsBuilder T e B b l w' := by
  rcases h with h | h
  all_goals
    obtain ⟨hB, v, hb, ho, hne⟩ := h
    have hlt : b < w.heap.size := by
      rcases Nat.lt_or_ge b w.heap.size with h' | h'
      · exact h'
      · simp [Array.getElem?_eq_none h'] at hb
  · exact .inl ⟨hB, v, (hg.block b hlt (by simp)).trans hb, ho.kept hg (by cases v.ownBlock <;> simp), hne⟩
  · exact .inr ⟨hB, v, (hg.block b hlt (by simp)).trans hb, ho.kept hg (by cases v.ownBlock <;> simp), hne⟩

theorem gr_belowB {w a b : World} (h : w.grownBy a none) (k : Below w.heap.size a b) : w.grownBy b none := ⟨k.os.trans h.os, k.tape.trans h.tape, k.output.trans h.output, Nat.le_trans h.size k.size, fun i hi _ => (k.block i hi).trans (h.block i hi (by simp))⟩
def IjRel (xs : List Dd) (w : World) (iv : Value) (wr : World) : Prop :=
  ∃ k : Nat, k ≤ xs.length ∧ iv = .int .i64 k ∧ Lib.IsBuilder (Tryz.lays166_ren.t 72) (Tryz.lays166_ren.t 5) w.heap.size w.heap.size (Lib.byteCells (jL (xs.take k))) wr ∧ jB (xs.take k) = true ∧ w.grownBy wr none

set_option maxRecDepth 8000 in
set_option maxHeartbeats 4000000 in
theorem ijt_any (xs : List Dd) (hn : xs.length ≤ 1048576) (a : Option Addr) (cap : Nat) (w : World) (h : DdsAt w a xs) (hT : WdAt w) :
    Calls Tryz.prog 17 #[.slice a xs.length cap] w (JtPost xs w) := by
  have H := Lib.hid h
  clear h
  have HT := Lib.hid hT
  clear hT
  go_enter Tryz.func17, Tryz.ntmps17
  go_wp2
  go_loopw [9] (fun iv wr => IjRel xs w iv wr) (fun iv _ => xs.length - (intOf iv).toNat)
  case atStart => exact ⟨0, by omega, rfl, Lib.fresh_isBuilder _ _ w, rfl, World.grownBy_alloc _ _ none⟩
  case round =>
    obtain ⟨k, hk, rfl, hI, hB, hgr⟩ := hrel
    have Hgr := Lib.hid hgr
    have HB := Lib.hid hB
    have HI := Lib.hid hI
    have hjl := jL_len (xs.take k)
    rw [List.length_take, Nat.min_eq_left hk] at hjl
    clear hgr hB hI
    by_cases hlt : k < xs.length
    · have hx := H.out.grown Hgr.out
      rcases hx.2 with h0 | ⟨b, o, rfl, hb, hc⟩
      · rw [h0] at hlt; simp at hlt
      obtain ⟨c0, c1, c2⟩ := hc k hlt
      clear hx hc hb
      have hno := Lib.hid (jT_no hlt)
      have hyes := Lib.hid (take_dd hlt)
      generalize xs.getD k nilDd = q at *
      obtain ⟨q1, q2, q3⟩ := q
      have HW : Hid (WdAt (wr.alloc (.cells #[.int .i64 q1, .int .i64 q2, .string (bs q3)] 40))) := Lib.hid (HT.out.grown (grownBy_trans Hgr.out (World.grownBy_alloc _ _ none)))
      have HG := Lib.hid (grownBy_trans Hgr.out (World.grownBy_alloc wr (.cells #[.int .i64 q1, .int .i64 q2, .string (bs q3)] 40) none))
      by_cases ht : txD (q1, q2, q3) = []
      · have cs := itx_v q1 q2 q3 ⟨#[]⟩ (by rw [ht]; rfl)
        go_wp2_with fail
        refine (cs _ HW.out).mono ?_
        rintro e w2 ⟨rfl, hg⟩
        go_wp2_with fail
        go_ret
        exact ⟨by rw [hno.out ht]; rfl, grownBy_trans HG.out hg⟩
      · have cs := itx_v q1 q2 q3 (bs (txD (q1, q2, q3))) rfl
        have hne := empty_bs ht
        have htl := tx_len (q1, q2, q3)
        have HTT := Lib.hid ht
        generalize hTT : txD (q1, q2, q3) = t at *
        have hz2 := bs_size t
        have n1 : ¬ (9223372036854775807 < (bs t).size + 1) := by omega
        have hA := bs_app t [10]
        rw [show bs [10] = ⟨#[10]⟩ from rfl] at hA
        have HL := Lib.hid (show (Lib.byteCells (jL (xs.take k))).length + (bs (t ++ [10])).size ≤ 140737488355328 by rw [Lib.byteCells_length, bs_size]; simp; omega)
        clear hz2 ht
        go_wp2_with fail
        refine (cs _ HW.out).mono ?_
        rintro e w2 ⟨rfl, hg⟩
        have HI2 := Lib.hid (builder_grown (builder_grown HI.out (World.grownBy_alloc _ _ none)) hg)
        have HG2 := Lib.hid (grownBy_trans HG.out hg)
        clear hg
        go_wp2_with fail
        refine (Any.Builder_WriteString Tryz.lays166 Tryz.Builder_Extra_166 w.heap.size w.heap.size _ (bs (t ++ [10])) w2 HI2.out HL.out HG2.out.size).mono ?_
        rintro e w3 ⟨rfl, hb3, hl3⟩
        have HG3 := Lib.hid (gr_belowB HG2.out hl3)
        have HI3 := Lib.hid hb3
        clear hb3 hl3
        go_wp2_with fail
        go_roundw
        case rel => exact ⟨k + 1, by omega, by go_num, .inr (by rw [hyes.out, jL_snoc, hTT, List.append_assoc, Lib.byteCells_append]; exact HI3.out), by rw [hyes.out]; exact jB_snoc HB.out (by rw [hTT]; exact HTT.out), HG3.out⟩
        case measure => simp [intOf]; omega
    · obtain rfl : k = xs.length := by omega
      rw [List.take_length] at HI HB
      go_wp2_with fail
      refine (Any.Builder_String_any Tryz.lays169 Tryz.Builder_Extra_169 w.heap.size w.heap.size (jL xs) wr HI.out Hgr.out.size).mono ?_
      rintro e w2 ⟨rfl, hl2⟩
      have HG2 := Lib.hid (gr_belowB Hgr.out hl2)
      clear hl2
      go_wp2_with fail
      go_ret
      exact ⟨by rw [jT_all HB.out]; rfl, HG2.out⟩

end Go.Proofs.YtlnffpofbfigaaaGreatDoor

/-
  What FnReadJournal asks of plain lists.
-/
namespace Go.Proofs.YtlnffpofbfigaaaGreatDoor
open Go.RowKit

theorem told_tl {a : Dd} {s : List UInt8} (h : Told a s) : a.2.2.length ≤ s.length := by
  cases h <;> simp
theorem rdJ_texts {l : List UInt8} {m : List Dd} {n : Nat} (h : rdJ l = (m, n)) : ∀ x ∈ m, x.2.2.length ≤ 66 := fun x hx => by
  have hj := (j_text l).1
  rw [h] at hj
  exact Nat.le_trans (told_tl (told_of (jB_of hj hx))) (tx_len x)
theorem rdJ_told {l : List UInt8} {m : List Dd} {n : Nat} (h : rdJ l = (m, n)) : jT m = l.take n ∧ n ≤ l.length ∧ ∀ k, k < m.length → rdD (txD (m.getD k nilDd)) = some (m.getD k nilDd) := by
  obtain ⟨h1, h2, h3⟩ := j_text l
  rw [h] at h1 h2 h3
  exact ⟨by rw [jT_all h1]; exact h2, h3, fun k hk => rd_tx (jB_of h1 (getDd_mem hk))⟩
/-- What is read of a beginning. -/
theorem rdJ_pre {l : List UInt8} {m : List Dd} {n : Nat} (h : rdJ l = (m, n)) (k : Nat) : ∃ (q j : Nat), rdJ (l.take k) = (m.take q, j) ∧ q ≤ m.length ∧ j ≤ k := by
  obtain ⟨h1, h2, h3⟩ := j_pre l k
  rw [h] at h1 h2
  refine ⟨(rdJ (l.take k)).1.length, (rdJ (l.take k)).2, ?_, h2, h3⟩
  exact Prod.ext h1 rfl

/-- The beginnings, one by one: how far it is. -/
def PreRel (l : List UInt8) (w : World) (kv : Value) (wr : World) : Prop := ∃ k : Nat, k ≤ l.length + 1 ∧ kv = .int .i64 k ∧ w.grownBy wr none

/-- A desk's row lies in no variable. -/
def OffB (a : Option Addr) (xs : List Ld) (b : Nat) : Prop := xs = [] ∨ ∃ g off, a = some ⟨g, off, none⟩ ∧ g ≠ b
theorem lds_off {w w' : World} {a : Option Addr} {xs : List Ld} {b : Nat} (h : LdsAt w a xs) (ho : OffB a xs b) (hg : w.grownBy w' (some b)) : LdsAt w' a xs := by
  rcases ho with rfl | ⟨g, off, rfl, hne⟩
  · exact ⟨h.1, .inl rfl⟩
  · exact h.kept hg (fun x hx => by cases hx; simpa using hne)
theorem off_lds {w : World} {a : Option Addr} {xs : List Ld} {b : Nat} (h : LdsAt w a xs) (hb : w.heap.size ≤ b) : OffB a xs b := by
  rcases h.2 with h | ⟨g, off, ha, hl, _⟩
  · exact .inl h
  · exact .inr ⟨g, off, ha, by omega⟩
theorem off_own {w : World} {base : Nat} {a : Option Addr} {xs : List Ld} {b : Nat} (h : OwnL w base a xs) (hb : b < base) : OffB a xs b := by
  rcases h.2 with h | ⟨g, off, _, ha, hl, _⟩
  · exact .inl h
  · exact .inr ⟨g, off, ha, by omega⟩
/-- The desk between the lines. -/
def NowR (W0 : World) (b : Nat) (d : Dk) (m : List Dd) (k nn : Nat) (e : Dk) (a : Option Addr) (cap : Nat) (wr : World) : Prop :=
  runD d (m.take k) = (e, nn) ∧ dkB e = true ∧ CellsAt wr b #[.int .i64 e.1.1, .string (bs e.1.2), .slice a e.2.length cap] 32 ∧ LdsAt wr a e.2 ∧ OffB a e.2 b ∧ (a = none → cap = 0) ∧ W0.grownBy wr none ∧ W0.heap.size ≤ b
def NowI (W0 : World) (b : Nat) (d : Dk) (m : List Dd) (kv : Value) (wr : World) : Prop :=
  ∃ (k nn : Nat) (e : Dk) (a : Option Addr) (cap : Nat), k ≤ m.length ∧ kv = .int .i64 k ∧ NowR W0 b d m k nn e a cap wr
theorem NowR.lt {W0 wr : World} {b : Nat} {d e : Dk} {m : List Dd} {k nn : Nat} {a : Option Addr} {cap : Nat} (h : NowR W0 b d m k nn e a cap wr) : b < wr.heap.size := h.2.2.1.lt
theorem NowR.grown {W0 wr w' : World} {b : Nat} {d e : Dk} {m : List Dd} {k nn : Nat} {a : Option Addr} {cap : Nat} (h : NowR W0 b d m k nn e a cap wr) (hg : wr.grownBy w' none) : NowR W0 b d m k nn e a cap w' := by
  obtain ⟨h1, h2, h3, h4, h5, h6, h7, h8⟩ := h
  exact ⟨h1, h2, h3.grown hg, h4.grown hg, h5, h6, grownBy_trans h7 hg, h8⟩
/-- One line more: what was answered is put where the desk is. -/
theorem NowR.next {W0 wr wc : World} {b : Nat} {d e f : Dk} {m : List Dd} {k nn : Nat} {a a3 : Option Addr} {cap c3 : Nat} {ok : Bool} (h : NowR W0 b d m k nn e a cap wr) (hg : wr.grownBy wc none) (hR : runD d (m.take (k + 1)) = (f, cond ok (nn + 1) nn) ∧ dkB f = true) (ho : OwnL wc wr.heap.size a3 f.2) (hz : a3 = none → c3 = 0) :
    NowR W0 b d m (k + 1) (cond ok (nn + 1) nn) f a3 c3 (((wc.setCell ⟨b, 0, none⟩ (.int .i64 f.1.1)).setCell ⟨b, 1, none⟩ (.string (bs f.1.2))).setCell ⟨b, 2, none⟩ (.slice a3 f.2.length c3)) := by
  obtain ⟨h1, h2, h3, h4, h5, h6, h7, h8⟩ := h
  have hoff : OffB a3 f.2 b := off_own ho h3.lt
  exact ⟨hR.1, hR.2, (h3.grown hg).put3 _ _ _, lds_off ho.at hoff (put3_past wc b _ _ _), hoff, hz, put3_grown b (grownBy_trans h7 hg) h8 _ _ _, h8⟩

end Go.Proofs.YtlnffpofbfigaaaGreatDoor

/-
  The draws of chapter 12: a desk.
-/
namespace Go.Proofs.YtlnffpofbfigaaaGreatDoor
open Go.RowKit

/-- A deed was drawn and done: what lies where ahead of what becomes of it. -/
def XGot (w0 : World) (b r Q : Nat) (m : Int) (s : List UInt8) (a : Option Addr) (cap : Nat) (xs : List Ld) (pv bv : Value) (wc : World) : Prop :=
  ∃ (c : Nat) (m2 : Int) (s2 : List UInt8) (xs2 : List Ld) (ok : Bool) (a2 : Option Addr) (cap2 : Nat), pv = .pointer (some ⟨c, 0, none⟩) ∧ bv = .bool ok ∧ BaseD w0 b r Q wc (.int .i64 m) (.string (bs s)) (.slice a xs.length cap) ∧ Own2 wc w0.heap.size a cap xs ∧ CellsAt wc c #[.int .i64 m2, .string (bs s2), .slice a2 xs2.length cap2] 32 ∧ (ok = true → xs2.length ≤ xs.length + 1 ∧ Own2 wc w0.heap.size a2 cap2 xs2) ∧ w0.heap.size < c ∧ c ≠ b
theorem XGot.new {w0 W : World} {b r Q : Nat} {m m2 : Int} {s s2 : List UInt8} {a a2 : Option Addr} {cap cap2 : Nat} {xs xs2 : List Ld} {ok : Bool} (h : BaseD w0 b r Q W (.int .i64 m) (.string (bs s)) (.slice a xs.length cap)) (o : Own2 W w0.heap.size a cap xs) (k : ok = true → xs2.length ≤ xs.length + 1 ∧ Own2 W w0.heap.size a2 cap2 xs2) :
    XGot w0 b r Q m s a cap xs (.pointer (some ⟨W.heap.size, 0, none⟩)) (.bool ok) (W.alloc (.cells #[.int .i64 m2, .string (bs s2), .slice a2 xs2.length cap2] 32)) :=
  ⟨_, m2, s2, xs2, ok, a2, cap2, rfl, rfl, h.alloc _, o.kept (World.grownBy_alloc _ _ none), CellsAt.new W _ _, fun e => ⟨(k e).1, (k e).2.kept (World.grownBy_alloc _ _ none)⟩, h.2.1.lt, by have := h.1.lt; omega⟩
theorem XGot.old {w0 W : World} {b c r Q : Nat} {m m2 : Int} {s s2 : List UInt8} {a a2 : Option Addr} {cap cap2 : Nat} {xs xs2 : List Ld} {ok : Bool} {x y z : Value} (h : BaseD w0 b r Q W (.int .i64 m) (.string (bs s)) (.slice a xs.length cap)) (o : Own2 W w0.heap.size a cap xs) (k : ok = true → xs2.length ≤ xs.length + 1 ∧ Own2 W w0.heap.size a2 cap2 xs2) (hz : CellsAt W c #[x, y, z] 32) (hc : w0.heap.size < c) (hne : c ≠ b) (hr : r < w0.heap.size) :
    XGot w0 b r Q m s a cap xs (.pointer (some ⟨c, 0, none⟩)) (.bool ok) (((W.setCell ⟨c, 0, none⟩ (.int .i64 m2)).setCell ⟨c, 1, none⟩ (.string (bs s2))).setCell ⟨c, 2, none⟩ (.slice a2 xs2.length cap2)) :=
  ⟨c, m2, s2, xs2, ok, a2, cap2, rfl, rfl, h.aside hc hne hr _ _ _, o.put3 (dkB_at hz) _ _ _, hz.put3 _ _ _, fun e => ⟨(k e).1, (k e).2.put3 (dkB_at hz) _ _ _⟩, hc, hne⟩

set_option maxRecDepth 8000 in
set_option maxHeartbeats 16000000 in
theorem desk_draw (HD : DeedC) (n : Int) (w : World) (r P : Nat) (hr : Rd w r P) (hP : P ≤ 40000) (hn : 1 ≤ n) (hn2 : n ≤ 1000) :
    Calls Tryz.prog 46 #[.pointer (some ⟨r, 0, none⟩), .int .i64 n] w (DDPost r P w) := by
  unfold DeedC at HD
  have hlt := hr.lt
  have hr0 := hr.alloc (.cells #[.int .i64 0, .string ⟨#[]⟩, .slice none 0 0] 32)
  go_enter Tryz.func46, Tryz.ntmps46
  go_wp2_with fail
  have hRB := CellsAt.new w #[.int .i64 0, .string ⟨#[]⟩, .slice none 0 0] 32
  have hg0 := World.grownBy_alloc w (.cells #[.int .i64 0, .string ⟨#[]⟩, .slice none 0 0] 32) (some r)
  generalize w.alloc (.cells #[.int .i64 0, .string ⟨#[]⟩, .slice none 0 0] 32) = W0 at *
  refine (pick_any _ _ _ _ hr0 (by omega)).mono ?_
  rintro e w1 ⟨i, rfl, hi0, hi1, hr1, hg1⟩
  go_wp2_with fail
  have hin : inB (1 + i) 1 6 = true := inB_t (by omega)
  have cn := snew_any (1 + i) w1
  have e1 : newK (1 + i) = ((1 + i, [97]), []) := by unfold newK; rw [hin]; rfl
  rw [hin, e1] at cn
  unfold dkV at cn
  refine cn.mono ?_
  rintro e w2 ⟨rfl, hg2⟩
  have g02 := grownBy_trans hg0 (grownBy_trans hg1 (grown_none hg2))
  have hR2 := (hRB.kept hg1 (by simp; omega)).grown hg2
  have hr2 := hr1.grown hg2
  have hA := CellsAt.new w2 #[.int .i64 (1 + i), .string (bs [97]), .slice none ([] : List Ld).length 0] 32
  clear hRB hg0 hg1 hg2 hr0 hr1 cn hin e1
  have hbs : bs [97] = ⟨#[97]⟩ := rfl
  rw [hbs] at hA
  have hgA := World.grownBy_alloc w2 (.cells #[.int .i64 (1 + i), .string ⟨#[97]⟩, .slice none ([] : List Ld).length 0] 32) none
  have hb0 : w.heap.size < w2.heap.size := hR2.lt
  go_wp2_with fail
  change Calls _ _ _ (w2.alloc (.cells #[.int .i64 (1 + i), .string ⟨#[97]⟩, .slice none ([] : List Ld).length 0] 32)) _
  generalize w2.alloc (.cells #[.int .i64 (1 + i), .string ⟨#[97]⟩, .slice none ([] : List Ld).length 0] 32) = W3 at *
  have hR3 := hR2.grown hgA
  have hr3 := hr2.grown hgA
  have g03 := grownBy_trans g02 (grown_none hgA)
  generalize hbb : w2.heap.size = b at *
  clear hR2 hr2 g02 hgA hbb hbs
  refine (pick_any _ _ _ _ hr3 (by omega)).mono ?_
  rintro e w4 ⟨j0, rfl, hj0, hj1, hr4, hg4⟩
  obtain ⟨j0, rfl⟩ := Int.eq_ofNat_of_zero_le hj0
  have hInit : Hid (DkL w b r P (.int .i64 (j0 : Int)) w4) := ⟨j0, ((1 + i, [97]), []), none, 0, rfl, by omega, by simp; omega, hA.kept hg4 (by simp; omega), Own2.nil _ _, hr4.mono (by omega), grownBy_trans g03 hg4, hR3.kept hg4 (by simp; omega)⟩
  clear hA hR3 hr3 g03 hr4 hg4
  go_wp2_with fail
  go_loopw [7] (fun k wr => DkL w b r P k wr) (fun k _ => (intOf k).toNat)
  case atStart => exact hInit.out
  case round =>
    obtain ⟨j, d, a, cap, rfl, hj5, hdj, hBd, ho, hrr, hgw, hR⟩ := hrel
    obtain ⟨⟨m, s⟩, xs⟩ := d
    have hlrb : r < b := by omega
    obtain ⟨⟨d0, d1, d2⟩, f0, f1, f2⟩ := three_facts hBd
    by_cases hz : j = 0
    · subst hz
      have hx5 : xs.length ≤ 5 := hdj
      go_wp2_with fail
      refine (odd_any _ _ _ _ hrr (by omega) hn hn2).mono ?_
      rintro e wo ⟨bo, rfl, hro, hgo⟩
      have BB := Lib.hid (show BaseD w b r (P + 502 - 0 * 100 + 1) wo (.int .i64 m) (.string (bs s)) (.slice a xs.length cap) from ⟨hBd.kept hgo (by simp; omega), hR.kept hgo (by simp; omega), hro, grownBy_trans hgw hgo⟩)
      have OO := Lib.hid (ho.past hgo (by omega))
      obtain ⟨⟨d0, d1, d2⟩, f0, f1, f2⟩ := three_facts BB.out.1
      obtain ⟨⟨z0, z1, z2⟩, y0, y1, y2⟩ := three_facts BB.out.2.1
      clear hBd ho hR hgw hgo hrr
      cases bo
      · have E := Lib.hid (desk_end (P := P) BB.out OO.out rfl hlt (by omega))
        go_wp2_with fail
        exact bodyPost_ret (v := .agg #[.int .i64 m, .string (bs s), .slice a xs.length cap]) (resDk rfl _ rfl E.out.1) rfl E.out.2
      · go_wp2_with fail
        refine (pick_any _ _ _ _ hro (by omega)).mono ?_
        rintro e wp ⟨kp, rfl, hp0, hp1, hrp, hgp⟩
        have BP := Lib.hid (show BaseD w b r (P + 502 - 0 * 100 + 1 + 1) wp (.int .i64 m) (.string (bs s)) (.slice a xs.length cap) from ⟨BB.out.1.kept hgp (by simp; omega), BB.out.2.1.kept hgp (by simp; omega), hrp, grownBy_trans BB.out.2.2.2 hgp⟩)
        have OP := Lib.hid (OO.out.past hgp (by omega))
        obtain ⟨⟨d0, d1, d2⟩, f0, f1, f2⟩ := three_facts BP.out.1
        obtain ⟨⟨z0, z1, z2⟩, y0, y1, y2⟩ := three_facts BP.out.2.1
        have lbp := BP.out.1.lt
        have lhp := BP.out.2.1.lt
        clear hgp
        obtain rfl | rfl | rfl : kp = 0 ∨ kp = 1 ∨ kp = 2 := by omega
        · have B1 := Lib.hid (show BaseD w b r (P + 502 - 0 * 100 + 1 + 1) (wp.setCell ⟨b, 0, none⟩ (.int .i64 0)) (.int .i64 0) (.string (bs s)) (.slice a xs.length cap) from ⟨BP.out.1.set 0 (.int .i64 0), BP.out.set (by omega) hlt 0 _⟩)
          obtain ⟨⟨t0, t1, t2⟩, v0, v1, v2⟩ := three_facts B1.out.2.1
          have E := Lib.hid (desk_end (P := P) B1.out (OP.out.beside ⟨_, BP.out.1⟩ (grownBy_set wp b 0 _)) rfl hlt (by omega))
          go_wp2_with fail
          exact bodyPost_ret (v := .agg #[.int .i64 0, .string (bs s), .slice a xs.length cap]) (resDk rfl _ rfl E.out.1) rfl E.out.2
        · have B1 := Lib.hid (show BaseD w b r (P + 502 - 0 * 100 + 1 + 1) (wp.setCell ⟨b, 1, none⟩ (.string ⟨#[97, 62]⟩)) (.int .i64 m) (.string ⟨#[97, 62]⟩) (.slice a xs.length cap) from ⟨BP.out.1.set 1 (.string ⟨#[97, 62]⟩), BP.out.set (by omega) hlt 1 _⟩)
          obtain ⟨⟨t0, t1, t2⟩, v0, v1, v2⟩ := three_facts B1.out.2.1
          have E := Lib.hid (desk_end (P := P) B1.out (OP.out.beside ⟨_, BP.out.1⟩ (grownBy_set wp b 1 _)) rfl hlt (by omega))
          go_wp2_with fail
          exact bodyPost_ret (v := .agg #[.int .i64 m, .string ⟨#[97, 62]⟩, .slice a xs.length cap]) (resDk rfl _ rfl E.out.1) rfl E.out.2
        · obtain ⟨i0, hi, hy0, hy1, hy2⟩ := info_parts infoLd
          have OQ := Lib.hid (OP.out.kept (World.grownBy_alloc _ (.cells #[.int .i64 0, .string ⟨#[]⟩] 29) none))
          have BQ := Lib.hid (BP.out.alloc (.cells #[.int .i64 0, .string ⟨#[]⟩] 29))
          go_wp2_with (at_builtin; refine wpList_append_own _ rfl _ _ 30 rfl w.heap.size 29 i0 (.agg #[.int .i64 0, .string ⟨#[]⟩]) 2 24 Tryz.underlying30 hi hy0 hy1 hy2 rfl (by decide) _ _ _ rfl OQ.out ⟨wp.heap.size, 0, none⟩ 1 1 (ldC [nilLd]) rfl rfl (World.news_of_block (CellsAt.new wp #[.int .i64 0, .string ⟨#[]⟩] 29)) (ldC_one [nilLd]) (by unfold maxLen; omega) (by omega) (by have := BQ.out.2.1.lt; omega) ?_; intro v' w4 hown' hgrow _; obtain ⟨a4, cap4, rfl, ho4⟩ := own2_more hown'; have B4 := Lib.hid (BQ.out.own OQ.out hlt hgrow); have O4 := Lib.hid ho4; obtain ⟨⟨d0, d1, d2⟩, f0, f1, f2⟩ := three_facts B4.out.1; obtain ⟨⟨z0, z1, z2⟩, y0, y1, y2⟩ := three_facts B4.out.2.1; have B5 := Lib.hid (show BaseD w b r (P + 502 - 0 * 100 + 1 + 1) (w4.setCell ⟨b, 2, none⟩ (.slice a4 (xs.length + 1) cap4)) (.int .i64 m) (.string (bs s)) (.slice a4 (xs.length + 1) cap4) from ⟨B4.out.1.set 2 (.slice a4 (xs.length + 1) cap4), B4.out.set (by omega) hlt 2 _⟩); obtain ⟨⟨t0, t1, t2⟩, v0, v1, v2⟩ := three_facts B5.out.2.1; have E := Lib.hid (desk_end (P := P) (xs := xs ++ [nilLd]) B5.out (O4.out.beside ⟨_, B4.out.1⟩ (grownBy_set w4 b 2 _)) (by simp) hlt (by omega)); clear ho4 hown' hgrow)
          exact bodyPost_ret (v := .agg #[.int .i64 m, .string (bs s), .slice a4 (xs.length + 1) cap4]) (resDk rfl _ rfl E.out.1) rfl E.out.2
    · have HB := Lib.hid hBd
      have HO := Lib.hid ho
      have HR := Lib.hid hR
      have HG := Lib.hid hgw
      have hrl := hrr.lt
      change xs.length + j ≤ 5 at hdj
      have hpos : 0 < (j : Int) := by omega
      clear hBd ho hR hgw
      go_wp2_with fail
      have lbw := HB.out.lt
      go_cut [8, 9] from 19 to 31 (fun pv bv wc => XGot w b r (P + 502 - j * 100 + 100) m s a cap xs pv bv wc)
      case first =>
        go_region_with (first | (go_at_call 95; (with_reducible refine (HD _ r (P + 502 - j * 100) (by first | with_reducible exact hrr.drewn | with_reducible exact (hrr.alloc _).drewn) (by omega)).mono ?_); rintro e wa ⟨DD, rfl, hDl, hra, hga⟩; have h1 := Lib.hid (show wr.grownBy wa (some r) from grownBy_trans (by first | exact grownBy_drew (grownBy_refl _ _) | exact grownBy_drew (World.grownBy_alloc _ _ _)) hga); have HBa := Lib.hid (HB.out.kept h1.out (by simp; omega)); have HOa := Lib.hid (HO.out.past h1.out (by omega)); obtain ⟨⟨d0, d1, d2⟩, f0, f1, f2⟩ := three_facts HBa.out; have lba := HBa.out.lt; (first | (with_reducible have HA := Lib.hid (nf_1 (grownBy_undrew hga) hrl)) | skip); (first | (obtain ⟨⟨q0, q1, q2⟩, j0', j1', j2'⟩ := three_facts HA.out; have hal := HA.out.lt) | skip)) | (go_at_call 61; (with_reducible refine (sdo_drawn m s xs a cap w.heap.size (by omega) _ DD (by first | with_reducible exact HOa.out | with_reducible exact HOa.out.kept (World.grownBy_alloc _ _ none)) (by first | exact (grownBy_trans HG.out h1.out).size | exact Nat.le_trans (grownBy_trans HG.out h1.out).size (World.grownBy_alloc _ _ none).size)).mono ?_); rintro e wb ⟨m2, s2, xs2, ok, a2, cap2, rfl, hok, hgb⟩; have h2 := Lib.hid (show wa.grownBy wb none from grownBy_trans (by first | exact grownBy_refl _ _ | exact World.grownBy_alloc _ _ _) hgb); have HBb := Lib.hid (HBa.out.grown h2.out); obtain ⟨⟨d0, d1, d2⟩, f0, f1, f2⟩ := three_facts HBb.out; have lbb := HBb.out.lt; (first | (with_reducible have HZ := Lib.hid (HA.out.grown hgb)) | (with_reducible have HZ := Lib.hid (nf_2 hgb)) | skip); (first | (obtain ⟨⟨q0, q1, q2⟩, j0', j1', j2'⟩ := three_facts HZ.out; have hzl := HZ.out.lt) | skip)))
        all_goals
          have BB := Lib.hid (show BaseD w b r (P + 502 - j * 100 + 100) wb (.int .i64 m) (.string (bs s)) (.slice a xs.length cap) from ⟨HBb.out, (HR.out.kept h1.out (by simp; omega)).grown h2.out, hra.grown h2.out, grownBy_trans (grownBy_trans HG.out h1.out) (grown_none h2.out)⟩)
          have OO := Lib.hid (HOa.out.kept h2.out)
          have hja : j - 1 ≤ 5 := by omega
          have hjq : P + 502 - j * 100 + 100 ≤ P + 502 - (j - 1) * 100 := by omega
          have sza : w.heap.size < wa.heap.size := (HR.out.kept h1.out (by simp; omega)).lt
          have szr : w.heap.size < wr.heap.size := HR.out.lt
        all_goals go_wp2_with fail
        all_goals go_meet
        all_goals first
          | with_reducible exact XGot.new BB.out OO.out hok
          | with_reducible exact XGot.old BB.out OO.out hok HZ.out (by omega) (by omega) hlt
          | (trace_state; fail)
      case rest =>
        obtain ⟨c, m2, s2, xs2, ok, a2, cap2, rfl, rfl, hBB, hOO, hC, hok, hc0, hcb⟩ := hcut
        have BB := Lib.hid hBB
        have OO := Lib.hid hOO
        have HC := Lib.hid hC
        have HK := Lib.hid hok
        clear hBB hOO hC hok HB HO HR HG hrr hpos
        obtain ⟨⟨d0, d1, d2⟩, f0, f1, f2⟩ := three_facts BB.out.1
        obtain ⟨⟨q0, q1, q2⟩, j0', j1', j2'⟩ := three_facts HC.out
        have hja : j - 1 ≤ 5 := by omega
        have hjq : P + 502 - j * 100 + 100 ≤ P + 502 - (j - 1) * 100 := by omega
        have hkk : Value.int .i64 ((j : Int) - 1) = .int .i64 ((j - 1 : Nat) : Int) := by congr 1; omega
        cases ok
        · go_wp2_with fail
          go_roundw
          case rel => exact DkL.mk BB.out OO.out hkk hja (by omega) hjq
          case measure => simp [intOf]; omega
        · have hl2 := (HK.out rfl).1
          go_wp2_with fail
          go_roundw
          case rel => exact DkL.mk (BB.out.put (by omega) hlt _ _ _) ((HK.out rfl).2.put3 (dkB_at BB.out.1) _ _ _) hkk hja (by omega) hjq
          case measure => simp [intOf]; omega

end Go.Proofs.YtlnffpofbfigaaaGreatDoor

/-
  The draw of a desk with a deed.
-/
namespace Go.Proofs.YtlnffpofbfigaaaGreatDoor
open Go.RowKit

theorem results_two {fn : Func} {p q : Tmp} {t u : TypeId} (h : fn.results = #[.cell p t, .cell q u]) (tmps : Array Value) (P : Program) (w : World) :
    (results fn tmps).run P w = ((asAddr (tmps.getD p undef)).run P w).andThen fun a w₁ => ((loadVar t a).run P w₁).andThen fun v w₂ => ((asAddr (tmps.getD q undef)).run P w₂).andThen fun b w₃ => ((loadVar u b).run P w₃).andThen fun x w₄ => .ok (.tuple #[v, x]) w₄ := by
  simp only [results, h]
  simp [Sem.run_bind, Result.andThen]
theorem resDkD {fn : Func} {p q : Tmp} (h : fn.results = #[.cell p 32, .cell q 40]) (tmps : Array Value) {w : World} {B C : Nat} {x y z i j k : Value} (hp : tmps.getD p undef = .pointer (some ⟨B, 0, none⟩)) (hq : tmps.getD q undef = .pointer (some ⟨C, 0, none⟩)) (hB : CellsAt w B #[x, y, z] 32) (hC : CellsAt w C #[i, j, k] 40) :
    (results fn tmps).run Tryz.prog w = .ok (.tuple #[.agg #[x, y, z], .agg #[i, j, k]]) w := by
  rw [results_two h, hp, hq]
  have h1 := run_loadVar_row w B 32 32 #[x, y, z] (0, 0) _ hB Tryz.underlying32 rfl sizeDk
  have h2 := run_loadVar_row w C 40 40 #[i, j, k] (0, 0) _ hC Tryz.underlying40 rfl sizeDd
  simp only [asAddr, Sem.run_pure, Result.andThen_ok, h1, h2]

/-- What lies where while the desk and the deed are handed out. -/
def DdS (w0 W : World) (c : Nat) (u v x p q t m s y : Value) : Prop :=
  CellsAt W w0.heap.size #[u, v, x] 32 ∧ CellsAt W (w0.heap.size + 1) #[p, q, t] 40 ∧ CellsAt W c #[m, s, y] 32 ∧ w0.grownBy W none ∧ w0.heap.size + 2 < c
def DdF (W : World) (b : Nat) (u v x : Value) : Prop := (W.cell? ⟨b, 0, none⟩ = some u ∧ W.cell? ⟨b, 1, none⟩ = some v ∧ W.cell? ⟨b, 2, none⟩ = some x) ∧ W.frozen? ⟨b, 0, none⟩ = false ∧ W.frozen? ⟨b, 1, none⟩ = false ∧ W.frozen? ⟨b, 2, none⟩ = false
theorem DdS.facts {w0 W : World} {c : Nat} {u v x p q t m s y : Value} (h : DdS w0 W c u v x p q t m s y) : DdF W w0.heap.size u v x ∧ DdF W (w0.heap.size + 1) p q t ∧ DdF W c m s y := ⟨three_facts h.1, set_facts h.2.1, three_facts h.2.2.1⟩
theorem DdS.put {w0 W : World} {c : Nat} {u v x p q t m s y : Value} (h : DdS w0 W c u v x p q t m s y) (a b d : Value) : DdS w0 (((W.setCell ⟨w0.heap.size, 0, none⟩ a).setCell ⟨w0.heap.size, 1, none⟩ b).setCell ⟨w0.heap.size, 2, none⟩ d) c a b d p q t m s y :=
  ⟨h.1.put3 _ _ _, h.2.1.kept (put3_past W _ _ _ _) (by simp), h.2.2.1.kept (put3_past W _ _ _ _) (by have := h.2.2.2.2; simp; omega), put3_grown _ h.2.2.2.1 (Nat.le_refl _) _ _ _, h.2.2.2.2⟩
theorem DdS.put2 {w0 W : World} {c : Nat} {u v x p q t m s y : Value} (h : DdS w0 W c u v x p q t m s y) (a b d : Value) : DdS w0 (((W.setCell ⟨w0.heap.size + 1, 0, none⟩ a).setCell ⟨w0.heap.size + 1, 1, none⟩ b).setCell ⟨w0.heap.size + 1, 2, none⟩ d) c u v x a b d m s y :=
  ⟨h.1.kept (put3_past W _ _ _ _) (by simp), h.2.1.put3 _ _ _, h.2.2.1.kept (put3_past W _ _ _ _) (by have := h.2.2.2.2; simp; omega), put3_grown _ h.2.2.2.1 (by omega) _ _ _, h.2.2.2.2⟩
theorem DdS.call {w0 W W' : World} {c : Nat} {u v x p q t m s y : Value} (h : DdS w0 W c u v x p q t m s y) (hg : W.grownBy W' (some (w0.heap.size + 2))) : DdS w0 W' c u v x p q t m s y :=
  ⟨h.1.kept hg (by simp), h.2.1.kept hg (by simp), h.2.2.1.kept hg (by have := h.2.2.2.2; simp; omega), ⟨hg.os.trans h.2.2.2.1.os, hg.tape.trans h.2.2.2.1.tape, hg.output.trans h.2.2.2.1.output, Nat.le_trans h.2.2.2.1.size hg.size, fun k hk hn => (hg.block k (Nat.lt_of_lt_of_le hk h.2.2.2.1.size) (by simp; omega)).trans (h.2.2.2.1.block k hk hn)⟩, h.2.2.2.2⟩
theorem DdS.drew {w0 W : World} {c : Nat} {u v x p q t m s y : Value} (h : DdS w0 W c u v x p q t m s y) : DdS w0 W.drew c u v x p q t m s y := ⟨h.1, h.2.1, h.2.2.1, grownBy_drew h.2.2.2.1, h.2.2.2.2⟩

def DdoPost (w : World) (e : Ending) (w' : World) : Prop := ∃ (d : Dk) (a : Option Addr) (cap : Nat) (D : Dd), e = .returned (.tuple #[dkV d a cap, .agg #[.int .i64 D.1, .int .i64 D.2.1, .string (bs D.2.2)]]) ∧ LdsAt w' a d.2 ∧ (a = none → cap = 0) ∧ D.2.2.length ≤ 100 ∧ w.grownBy w' none

end Go.Proofs.YtlnffpofbfigaaaGreatDoor

/-
  The draw of a desk with deeds.
-/
namespace Go.Proofs.YtlnffpofbfigaaaGreatDoor
open Go.RowKit

def nil41 : List Dd := List.replicate 41 nilDd
theorem mk41_run (w : World) : (Instr.makeSlice 24 (.int .i64 41) (.int .i64 41)).run Tryz.prog w = .ok (.slice (some ⟨w.heap.size, 0, none⟩) 41 41) (w.alloc (.cells (ddC nil41).toArray 40)) := by kernel_rfl
theorem at41 {w : World} {b : Nat} (h : CellsAt w b (ddC nil41).toArray 40) : DdsAt w (some ⟨b, 0, none⟩) nil41 := by
  refine ⟨by decide, .inr ⟨b, 0, rfl, h.lt, fun i hi => ?_⟩⟩
  have hc := ddC_at nil41 i hi
  refine ⟨?_, ?_, ?_⟩
  · exact h.cell (by rw [Nat.zero_add, List.getElem?_toArray]; exact hc.1)
  · exact h.cell (by rw [Nat.zero_add, List.getElem?_toArray]; exact hc.2.1)
  · exact h.cell (by rw [Nat.zero_add, List.getElem?_toArray]; exact hc.2.2)

/-- Where a row of deeds begins. -/
def DdsWay (b : Option Addr) (l : List Dd) (capb : Nat) : Prop := l.length ≤ capb ∧ capb ≤ maxLen ∧ ∃ g, b = some ⟨g, 0, none⟩
def DrunPost (w : World) (e : Ending) (w' : World) : Prop := ∃ (d : Dk) (a : Option Addr) (cap : Nat) (l : List Dd) (b : Option Addr) (capb : Nat), e = .returned (.tuple #[dkV d a cap, .slice b l.length capb]) ∧ LdsAt w' a d.2 ∧ (a = none → cap = 0) ∧ DdsAt w' b l ∧ DdsWay b l capb ∧ (∀ x ∈ l, x.2.2.length ≤ 100) ∧ w.grownBy w' none

/-- What lies where while the desk and the deeds are handed out. -/
def DrS (w0 W : World) (c : Nat) (u v x m s y : Value) : Prop :=
  CellsAt W w0.heap.size #[u, v, x] 32 ∧ CellsAt W c #[m, s, y] 32 ∧ w0.grownBy W none ∧ w0.heap.size + 1 < c
theorem DrS.facts {w0 W : World} {c : Nat} {u v x m s y : Value} (h : DrS w0 W c u v x m s y) : DdF W w0.heap.size u v x ∧ DdF W c m s y := ⟨three_facts h.1, three_facts h.2.1⟩
theorem DrS.put {w0 W : World} {c : Nat} {u v x m s y : Value} (h : DrS w0 W c u v x m s y) (a b d : Value) : DrS w0 (((W.setCell ⟨w0.heap.size, 0, none⟩ a).setCell ⟨w0.heap.size, 1, none⟩ b).setCell ⟨w0.heap.size, 2, none⟩ d) c a b d m s y :=
  ⟨h.1.put3 _ _ _, h.2.1.kept (put3_past W _ _ _ _) (by have := h.2.2.2; simp; omega), put3_grown _ h.2.2.1 (Nat.le_refl _) _ _ _, h.2.2.2⟩
theorem DrS.call {w0 W W' : World} {c : Nat} {u v x m s y : Value} (h : DrS w0 W c u v x m s y) (hg : W.grownBy W' (some (w0.heap.size + 1))) : DrS w0 W' c u v x m s y :=
  ⟨h.1.kept hg (by simp), h.2.1.kept hg (by have := h.2.2.2; simp; omega), ⟨hg.os.trans h.2.2.1.os, hg.tape.trans h.2.2.1.tape, hg.output.trans h.2.2.1.output, Nat.le_trans h.2.2.1.size hg.size, fun k hk _ => (hg.block k (Nat.lt_of_lt_of_le hk h.2.2.1.size) (by simp; omega)).trans (h.2.2.1.block k hk (by simp))⟩, h.2.2.2⟩
theorem DrS.drew {w0 W : World} {c : Nat} {u v x m s y : Value} (h : DrS w0 W c u v x m s y) : DrS w0 W.drew c u v x m s y := ⟨h.1, h.2.1, grownBy_drew h.2.2.1, h.2.2.2⟩
theorem DrS.alloc {w0 W : World} {c : Nat} {u v x m s y : Value} (h : DrS w0 W c u v x m s y) (X : Obj) : DrS w0 (W.alloc X) c u v x m s y :=
  ⟨h.1.grown (World.grownBy_alloc _ _ none), h.2.1.grown (World.grownBy_alloc _ _ none), grownBy_trans h.2.2.1 (World.grownBy_alloc _ _ none), h.2.2.2⟩

set_option maxRecDepth 8000 in
set_option maxHeartbeats 8000000 in
theorem DrawDeskRun_any (HD : DeedC) (a : Option Addr) (len cap : Nat) (zs : List Int) (w : World) (h : IsRow .u8 w a len cap zs) :
    Calls Tryz.prog 12 #[.slice a len cap] w (DrunPost w) := by
  have g0 := World.grownBy_alloc w (.cells #[.int .i64 0, .string ⟨#[]⟩, .slice none 0 0] 32) none
  have hB := CellsAt.new w #[.int .i64 0, .string ⟨#[]⟩, .slice none 0 0] 32
  have ha := h.up g0
  have hR : (w.alloc (.cells #[.int .i64 0, .string ⟨#[]⟩, .slice none 0 0] 32)).heap.size = w.heap.size + 1 := by show (w.heap.push _).size = _; rw [Array.size_push]
  have HR := Lib.hid hR
  have co := open_draw a len cap zs _ ha
  unfold OpenPost at co
  rw [hR] at co
  have HB := Lib.hid hB
  have G0 := Lib.hid g0
  clear h hB g0 hR ha
  go_enter Tryz.func12, Tryz.ntmps12
  go_wp2_with fail
  refine co.mono ?_
  rintro e w1 ⟨rfl, hr1, hg1⟩
  have cd := desk_draw HD 12 w1 (w.heap.size + 1) 0 hr1 (by omega) (by omega) (by omega)
  have hl1 := hr1.lt
  clear co
  go_wp2_with fail
  refine cd.mono ?_
  rintro e w2 ⟨d, a, cap, rfl, ho, hr2, hg2⟩
  obtain ⟨⟨m, s⟩, xs⟩ := d
  have hgg := grownBy_own hg1 (by rw [HR.out]; exact hg2)
  have hl2 := hr2.lt
  have S0 := Lib.hid (show DrS w (w2.alloc (.cells #[.int .i64 m, .string (bs s), .slice a xs.length cap] 32)) w2.heap.size (.int .i64 0) (.string ⟨#[]⟩) (.slice none 0 0) (.int .i64 m) (.string (bs s)) (.slice a xs.length cap) from ⟨(HB.out.grown hgg).grown (World.grownBy_alloc _ _ none), CellsAt.new w2 _ _, grownBy_trans (grownBy_trans G0.out hgg) (World.grownBy_alloc _ _ none), hl2⟩)
  have hr3 := hr2.alloc (.cells #[.int .i64 m, .string (bs s), .slice a xs.length cap] 32)
  have ho3 := Lib.hid (ho.kept (World.grownBy_alloc w2 (.cells #[.int .i64 m, .string (bs s), .slice a xs.length cap] 32) none))
  clear ho hr2 hg2 hg1 hr1 hgg cd
  unfold dkV
  go_wp2_with fail
  generalize w2.alloc (.cells #[.int .i64 m, .string (bs s), .slice a xs.length cap] 32) = W at *
  generalize w2.heap.size = c at *
  refine (odd_any _ _ _ _ hr3 (by omega) (by omega) (by omega)).mono ?_
  rintro e wo ⟨bo, rfl, hro, hgo⟩
  have S1 := Lib.hid (S0.out.call hgo)
  have ho4 := Lib.hid (ho3.out.past hgo (by omega))
  obtain ⟨⟨⟨d0, d1, d2⟩, f0, f1, f2⟩, ⟨⟨z0, z1, z2⟩, y0, y1, y2⟩⟩ := S1.out.facts
  clear hr3 hgo
  cases bo
  · have hro2 : Hid (w.heap.size + 2 ≤ wo.drew.heap.size) := Lib.hid (show w.heap.size + 2 ≤ wo.heap.size by have := hro.lt; omega)
    go_wp2_with fail
    have KS : Hid (∀ (w' : World) (u v x : Value), DrS w w' c u v x (.int .i64 m) (.string (bs s)) (.slice a xs.length cap) → w'.cell? ⟨c, 0, none⟩ = some (.int .i64 m) ∧ w'.cell? ⟨c, 1, none⟩ = some (.string (bs s)) ∧ w'.cell? ⟨c, 2, none⟩ = some (.slice a xs.length cap)) := fun w' u v x h => h.2.1.three
    go_region_held3 (fun w' => w'.cell? ⟨c, 0, none⟩ = some (.int .i64 m) ∧ w'.cell? ⟨c, 1, none⟩ = some (.string (bs s)) ∧ w'.cell? ⟨c, 2, none⟩ = some (.slice a xs.length cap)) (first | exact KS.out _ _ _ _ S1.out.drew | exact KS.out _ _ _ _ S2.out | exact KS.out _ _ _ _ S3.out) (first | (go_at_call 48; (with_reducible refine (deeds_draw _ (w.heap.size + 1) 701 hro.drewn (by omega)).mono ?_); rintro e wa ⟨l, b, capb, rfl, hll, hol, hsome, hDl, hra, hga⟩; have h1 := Lib.hid (grownBy_undrew hga); have S2 := Lib.hid (S1.out.call h1.out); have S3 := Lib.hid (S2.out.put (.int .i64 m) (.string (bs s)) (.slice a xs.length cap)); have HO := Lib.hid ((ho4.out.past h1.out (by omega)).past (put3_past wa w.heap.size (.int .i64 m) (.string (bs s)) (.slice a xs.length cap)) (by omega)); have HL := Lib.hid ((hol.mono (base' := w.heap.size + 2) hro2.out).past (put3_past wa w.heap.size (.int .i64 m) (.string (bs s)) (.slice a xs.length cap)) (by omega)); obtain ⟨⟨⟨d0, d1, d2⟩, f0, f1, f2⟩, ⟨⟨z0, z1, z2⟩, y0, y1, y2⟩⟩ := S2.out.facts))
    all_goals go_wp2_with fail
    all_goals exact bodyPost_ret (v := .tuple #[.agg #[.int .i64 m, .string (bs s), .slice a xs.length cap], .slice b l.length capb]) (resDkB (b := .slice b l.length capb) rfl _ rfl rfl S3.out.1) rfl ⟨((m, s), xs), a, cap, l, b, capb, rfl, HO.out.at, HO.out.bare, HL.out.at, ⟨HL.out.room.1, HL.out.room.2, hsome⟩, hDl, S3.out.2.2.1⟩
  · have hm1 := mk41_run
    have SA := Lib.hid (S1.out.alloc (.cells (ddC nil41).toArray 40))
    have HN := Lib.hid (CellsAt.new wo (ddC nil41).toArray 40)
    have gN := World.grownBy_alloc wo (.cells (ddC nil41).toArray 40) none
    have hA := Lib.hid (ho4.out.kept gN)
    have hlo := hro.lt
    have HAT := Lib.hid (show ∀ (W' : World) (b : Nat), CellsAt W' b (ddC nil41).toArray 40 → DdsAt W' (some ⟨b, 0, none⟩) nil41 from fun _ _ h => at41 h)
    have hsz : (((wo.setCell ⟨w.heap.size, 0, none⟩ (.int .i64 m)).setCell ⟨w.heap.size, 1, none⟩ (.string (bs s))).setCell ⟨w.heap.size, 2, none⟩ (.slice a xs.length cap)).heap.size = wo.heap.size := by simp
    have HM := Lib.hid (CellsAt.new (((wo.setCell ⟨w.heap.size, 0, none⟩ (.int .i64 m)).setCell ⟨w.heap.size, 1, none⟩ (.string (bs s))).setCell ⟨w.heap.size, 2, none⟩ (.slice a xs.length cap)) (ddC nil41).toArray 40)
    rw [hsz] at HM
    have PA := Lib.hid (SA.out.put (.int .i64 m) (.string (bs s)) (.slice a xs.length cap)).drew
    have PB := Lib.hid ((S1.out.put (.int .i64 m) (.string (bs s)) (.slice a xs.length cap)).alloc (.cells (ddC nil41).toArray 40)).drew
    have hn : Hid (∀ x ∈ nil41, x.2.2.length ≤ 100) := Lib.hid fun x hx => by rw [List.eq_of_mem_replicate hx]; decide
    have way : Hid (DdsWay (some ⟨wo.heap.size, 0, none⟩) nil41 41) := Lib.hid ⟨by decide, by decide, ⟨_, rfl⟩⟩
    have KA := Lib.hid (HN.out.kept (put3_past _ w.heap.size (.int .i64 m) (.string (bs s)) (.slice a xs.length cap)) (by simp; omega))
    have LA := Lib.hid (hA.out.past (put3_past _ w.heap.size (.int .i64 m) (.string (bs s)) (.slice a xs.length cap)) (by omega))
    have LB := Lib.hid ((ho4.out.past (put3_past _ w.heap.size (.int .i64 m) (.string (bs s)) (.slice a xs.length cap)) (by omega)).kept (World.grownBy_alloc _ (.cells (ddC nil41).toArray 40) none))
    generalize ddC nil41 = X at *
    obtain ⟨⟨⟨a0, a1, a2⟩, g0, g1, g2⟩, ⟨⟨b0, b1, b2⟩, i0, i1, i2⟩⟩ := SA.out.facts
    go_wp2_with fail
    go_region_with fail
    all_goals go_wp2_with fail
    all_goals first
      | exact bodyPost_ret (v := .tuple #[.agg #[.int .i64 m, .string (bs s), .slice a xs.length cap], .slice (some ⟨wo.heap.size, 0, none⟩) 41 41]) (resDkB (b := .slice (some ⟨wo.heap.size, 0, none⟩) 41 41) rfl _ rfl rfl PA.out.1) rfl ⟨((m, s), xs), a, cap, nil41, some ⟨wo.heap.size, 0, none⟩, 41, rfl, LA.out.at, LA.out.bare, HAT.out _ _ KA.out, way.out, hn.out, PA.out.2.2.1⟩
      | exact bodyPost_ret (v := .tuple #[.agg #[.int .i64 m, .string (bs s), .slice a xs.length cap], .slice (some ⟨wo.heap.size, 0, none⟩) 41 41]) (resDkB (b := .slice (some ⟨wo.heap.size, 0, none⟩) 41 41) rfl _ rfl rfl PB.out.1) rfl ⟨((m, s), xs), a, cap, nil41, some ⟨wo.heap.size, 0, none⟩, 41, rfl, LB.out.at, LB.out.bare, HAT.out _ _ HM.out, way.out, hn.out, PB.out.2.2.1⟩

end Go.Proofs.YtlnffpofbfigaaaGreatDoor

/-
  The walk of FnDeskOk.
-/
namespace Go.Proofs.YtlnffpofbfigaaaGreatDoor
open Go.RowKit

theorem deedC : DeedC := fun w r P hr hP => deed_draw w r P hr hP
def DkPost (w : World) (e : Ending) (w' : World) : Prop := ∃ (d : Dk) (a : Option Addr) (cap : Nat), e = .returned (dkV d a cap) ∧ LdsAt w' a d.2 ∧ (a = none → cap = 0) ∧ w.grownBy w' none

end Go.Proofs.YtlnffpofbfigaaaGreatDoor

/-
  The walk of FnDeskRun.
-/
namespace Go.Proofs.YtlnffpofbfigaaaGreatDoor
open Go.RowKit

theorem runR_ok {d : Dk} {l : List Dd} (h : dkB d = true ∧ l.length ≤ 40) : runR d l = runD d l := if_pos h
theorem runR_no {d : Dk} {l : List Dd} (h : ¬ (dkB d = true ∧ l.length ≤ 40)) : runR d l = (nilDk, 0) := if_neg h
/-- Two parts, one after the other. -/
theorem run_parts {d e e1 e2 : Dk} {l : List Dd} {n n1 n2 H : Nat} (hd : dkB d = true ∧ l.length ≤ 40) (h : runR d l = (e, n)) (h1 : runR d (l.take H) = (e1, n1)) (h2 : runR e1 (l.drop H) = (e2, n2)) : e2 = e ∧ n1 + n2 = n ∧ dkB e = true ∧ n1 ≤ 40 ∧ n2 ≤ 40 := by
  rw [runR_ok hd] at h
  have l1 : (l.take H).length ≤ 40 := by rw [List.length_take]; omega
  have l2 : (l.drop H).length ≤ 40 := by rw [List.length_drop]; omega
  rw [runR_ok ⟨hd.1, l1⟩] at h1
  have ok1 := run_ok (l.take H) hd.1
  have q1 := run_le (l.take H) d
  rw [h1] at ok1 q1
  rw [runR_ok ⟨ok1, l2⟩] at h2
  have q2 := run_le (l.drop H) e1
  rw [h2] at q2
  have := run_app (l.take H) (l.drop H) d
  rw [List.take_append_drop, h, h1, h2] at this
  cases this
  have ok := run_ok l hd.1
  rw [h] at ok
  change n1 ≤ _ at q1
  change n2 ≤ _ at q2
  exact ⟨rfl, rfl, ok, by omega, by omega⟩

end Go.Proofs.YtlnffpofbfigaaaGreatDoor
