/-
  Joined out of the texts DTd, DTe, DTj, DTk: what each holds is told at its head.
-/
import Derived.Test.YtlnffpofbfigaaaGreatDoorM61ee5d0c
import Derived.Test.YtlnffpofbfigaaaGreatDoorSfd
import Derived.Lib.CutLaws
import Derived.Test.YtlnffpofbfigaaaGreatDoorM85c18669
import Derived.Laws.AppendOwn
import Derived.Test.YtlnffpofbfigaaaGreatDoorNf8fac338

/-
  Cutting a text at a byte, a number's text read, the kind of deed that has a word: impl's own.
-/
namespace Go.Proofs.YtlnffpofbfigaaaGreatDoor
open Go.RowKit

/-- As long as a text may be that the library's numbers are read of. -/
def L48 : Nat := 281474976710656
theorem gr_below {w w' : World} (h : Below w.heap.size w w') : w.grownBy w' none := ⟨h.os, h.tape, h.output, h.size, fun k hk _ => h.block k hk⟩

theorem index1_any (l : List UInt8) (c : UInt8) (w : World) :
    Calls Tryz.prog 118 #[.string (bs l), .string ⟨#[c]⟩] w fun e w' => e = .returned (.int .i64 (Lib.indexB (bs l) ⟨#[c]⟩)) ∧ w' = w := by
  have h := Any.stringslite_Index_one Tryz.lays219 (bs l) c w
  rw [← Lib.index_one] at h
  exact h

def CutD (l : List UInt8) (c : UInt8) : Value := .tuple #[.string (bs (Lib.cut l [c]).1), .string (bs (Lib.cut l [c]).2.1), .bool (Lib.cut l [c]).2.2]
set_option maxHeartbeats 1600000 in
theorem cutlite_any (l : List UInt8) (c : UInt8) (w : World) (hl : l.length ≤ L48) :
    Calls Tryz.prog 91 #[.string (bs l), .string ⟨#[c]⟩] w fun e w' => e = .returned (CutD l c) ∧ w.grownBy w' none := by
  have ci := index1_any l c
  have hz := bs_size l
  unfold L48 at hl
  unfold CutD
  rcases Lib.indexB_cases (bs l) ⟨#[c]⟩ with h | ⟨i, h, hi⟩
  · obtain ⟨h1, h2, h3⟩ := Lib.cutB_miss (bs l) ⟨#[c]⟩ h
    change bs (Lib.cut l [c]).1 = _ at h1
    change bs (Lib.cut l [c]).2.1 = _ at h2
    change (Lib.cut l [c]).2.2 = _ at h3
    rw [h1, h2, h3]
    rw [h] at ci
    clear h h1 h2 h3
    go_enter Tryz.func91, Tryz.ntmps91
    go_wp2_with (first | (go_at_call 118; refine (ci _).mono ?_; rintro e w' ⟨rfl, rfl⟩))
    exact bodyPost_ret (results_tmp3 rfl _ _ _) rfl ⟨rfl, grownBy_refl _ _⟩
  · obtain ⟨h1, h2, h3⟩ := Lib.cutB_hit (bs l) ⟨#[c]⟩ i h
    change bs (Lib.cut l [c]).1 = _ at h1
    change bs (Lib.cut l [c]).2.1 = _ at h2
    change (Lib.cut l [c]).2.2 = _ at h3
    rw [h1, h2, h3]
    rw [h] at ci
    clear h h1 h2 h3
    change i + 1 ≤ (bs l).size at hi
    have ge : (i : Int) ≥ 0 := by omega
    have w1 : wrap64 ((i : Int) + 1) = (i : Int) + 1 := by unfold wrap64; omega
    have le1 : ((i : Int) ≤ ((bs l).size : Int)) := by omega
    have le2 : ((i : Int) + 1 ≤ ((bs l).size : Int)) := by omega
    have le3 : (0 : Int) ≤ (i : Int) + 1 := by omega
    have le0 : (0 : Int) ≤ (i : Int) := by omega
    clear hz hi
    generalize bs l = s at *
    go_enter Tryz.func91, Tryz.ntmps91
    go_wp2_with (first | (go_at_call 118; refine (ci _).mono ?_; rintro e w' ⟨rfl, rfl⟩))
    have mixed : Tryz.prog.follows Departure.mixedOrders = true := by kernel_rfl
    go_region_o
    all_goals go_wp2
    all_goals refine bodyPost_ret (results_tmp3 rfl _ _ _) rfl ?_
    all_goals first | exact ⟨rfl, grownBy_refl _ _⟩ | exact ⟨rfl, grownBy_drew (grownBy_refl _ _)⟩

theorem cut_any (l : List UInt8) (c : UInt8) (w : World) (hl : l.length ≤ L48) :
    Calls Tryz.prog 43 #[.string (bs l), .string ⟨#[c]⟩] w fun e w' => e = .returned (CutD l c) ∧ w.grownBy w' none := by
  have cc := fun w => cutlite_any l c w hl
  unfold CutD at cc ⊢
  go_enter Tryz.func43, Tryz.ntmps43
  go_wp2_with (first | (go_at_call 91; refine (cc _).mono ?_; rintro e w' ⟨rfl, hg⟩))
  exact bodyPost_ret (results_tmp3 rfl _ _ _) rfl ⟨rfl, hg⟩

/-- What the library hands back with an error lies as some value behind an interface. -/
def ErAt (w : World) : Prop := (∃ tp p, w.cell? ⟨3, 0, none⟩ = some (.iface tp p)) ∧ ∃ tp p, w.cell? ⟨4, 0, none⟩ = some (.iface tp p)
theorem ErAt.grown {w w' : World} (h : ErAt w) (hg : w.grownBy w' none) : ErAt w' := by
  obtain ⟨⟨a, b, h1⟩, ⟨c, d, h2⟩⟩ := h
  exact ⟨⟨a, b, (World.cell?_of_block (w := w) (hg.block _ (World.block_lt_of_cell? w _ h1) (by simp))).trans h1⟩, ⟨c, d, (World.cell?_of_block (w := w) (hg.block _ (World.block_lt_of_cell? w _ h2) (by simp))).trans h2⟩⟩

theorem atoi_ok (l : List UInt8) (hl : l.length ≤ L48) (v : Int) (h : Lib.atoiAll l = .ok v) (w : World) :
    Calls Tryz.prog 119 #[.string (bs l)] w fun e w' => e = .returned (.tuple #[.int .i64 v, .nilIface]) ∧ w.grownBy w' none := by
  have hz := bs_size l
  unfold L48 at hl
  refine Calls.mono (Any.strconv_Atoi_ok Tryz.laysC172 (bs l) (by omega) v h w) fun e w' hh => ⟨hh.1, ?_⟩
  rcases hh.2 with rfl | ⟨t, rfl⟩
  · exact grownBy_refl _ _
  · exact gr_below (Lib.bytesWorld_below _ _ _)
theorem atoi_no (l : List UInt8) (hl : l.length ≤ L48) (h : ∀ v, Lib.atoiAll l ≠ .ok v) (w : World) (hE : ErAt w) :
    Calls Tryz.prog 119 #[.string (bs l)] w fun e w' => (∃ (n : Int) (N : Nat), e = .returned (.tuple #[.int .i64 n, .iface (Tryz.laysC172_ren.t 168) (.pointer (some ⟨N, 0, none⟩))])) ∧ w.grownBy w' none := by
  have hz := bs_size l
  unfold L48 at hl
  obtain ⟨⟨a, b, h1⟩, ⟨c, d, h2⟩⟩ := hE
  cases e : Lib.atoiAll l with
  | ok v => exact absurd e (h v)
  | range =>
    refine Calls.mono (Any.strconv_Atoi_range Tryz.laysC172 (bs l) (by omega) e _ w h2 (.inr ⟨_, _, rfl⟩)) fun e w' hh => ?_
    obtain ⟨N, he, _, _, hb⟩ := hh
    exact ⟨⟨_, N, he⟩, gr_below hb⟩
  | _ =>
    refine Calls.mono (Any.strconv_Atoi_syntax Tryz.laysC172 (bs l) (by omega) e _ w h1 (.inr ⟨_, _, rfl⟩)) fun e w' hh => ?_
    obtain ⟨N, he, _, _, hb⟩ := hh
    exact ⟨⟨_, N, he⟩, gr_below hb⟩
theorem itoa2_any (k : Nat) (h : k < 100) (w : World) :
    Calls Tryz.prog 54 #[.int .i64 (k : Int)] w fun e w' => e = .returned (.string (bs (decL k))) ∧ w' = w := by
  have hh := Any.strconv_Itoa_small Tryz.lays171 k h w
  have he : Lib.decDigits k = decL k := by
    rw [← itoa_dec h]; unfold Lib.itoa; rw [if_neg (by omega), Int.toNat_natCast]
  rw [he] at hh
  exact hh

end Go.Proofs.YtlnffpofbfigaaaGreatDoor

/-
  The kind of deed that has a word; a number's text read.
-/
namespace Go.Proofs.YtlnffpofbfigaaaGreatDoor
open Go.RowKit

theorem toL_bs (l : List UInt8) : (bs l).toList = l := by rw [ByteArray.toList_eq]; rfl
theorem bs_ne {l m : List UInt8} (h : m ≠ l) : (m == (bs l).toList) = false := by rw [toL_bs]; exact beq_false_of_ne h
theorem kind_at {l : List UInt8} {k : Nat} (hk : k < 7) (hall : ∀ j, j < k → wordsL.getD j [] ≠ l) (h : wordsL.getD k [] = l) : Ending.returned (.int .i64 (k : Int)) = .returned (.int .i64 (kindI l)) := by rw [kindI_at hall hk h]
theorem word_at {k : Nat} (hk : k < 7) : ∀ w, (Instr.index 81 (.agg #[.string ⟨#[99, 104, 97, 105, 110]⟩, .string ⟨#[115, 97, 121]⟩, .string ⟨#[110, 111, 116]⟩, .string ⟨#[116, 105, 109, 101, 115]⟩, .string ⟨#[105, 102]⟩, .string ⟨#[98, 97, 115, 105, 99]⟩, .string ⟨#[98, 97, 99, 107]⟩]) (.int .i64 (k : Int))).run Tryz.prog w = .ok (.string (bs (wordsL.getD k []))) w := by
  intro w
  rcases (show k = 0 ∨ k = 1 ∨ k = 2 ∨ k = 3 ∨ k = 4 ∨ k = 5 ∨ k = 6 by omega) with rfl | rfl | rfl | rfl | rfl | rfl | rfl
  all_goals kernel_rfl
def KdRel (l : List UInt8) (w : World) (i : Value) (wr : World) : Prop := ∃ k : Nat, k ≤ 7 ∧ i = .int .i64 k ∧ (∀ j, j < k → wordsL.getD j [] ≠ l) ∧ w = wr
set_option maxRecDepth 8000 in
set_option maxHeartbeats 4000000 in
theorem kind_any (l : List UInt8) (w : World) (hT : WdAt w) :
    Calls Tryz.prog 92 #[.string (bs l)] w fun e w' => e = .returned (.int .i64 (kindI l)) ∧ w = w' := by
  obtain ⟨c0, c1, c2, c3, c4, c5, c6⟩ := hT.facts
  go_enter Tryz.func92, Tryz.ntmps92
  go_wp2
  clear c0 c1 c2 c3 c4 c5 c6 hT
  go_loopw [6] (fun i wr => KdRel l w i wr) (fun i _ => 7 - (intOf i).toNat)
  case atStart => exact ⟨0, by omega, rfl, fun j hj => absurd hj (by omega), rfl⟩
  case round =>
    obtain ⟨k, hk, rfl, hall, rfl⟩ := hrel
    by_cases h7 : k = 7
    · subst h7
      go_wp2
      go_ret
      exact ⟨by rw [kindI_no hall]; rfl, rfl⟩
    · have hlt : (k : Int) < 7 := by omega
      have hi := word_at (k := k) (by omega)
      by_cases hl : wordsL.getD k [] = l
      · have HZ := Lib.hid (kind_at (by omega) hall hl)
        rw [hl] at hi
        clear hall hl h7
        go_wp2
        go_ret
        exact ⟨Eq.trans rfl HZ.out, rfl⟩
      · have hm : ∀ j, j < k + 1 → wordsL.getD j [] ≠ l := fun j hj => by
          by_cases e : j = k
          · rw [e]; exact hl
          · exact hall j (by omega)
        have hn := bs_ne hl
        rw [← toL_bs (wordsL.getD k [])] at hn
        have HM := Lib.hid hm
        clear hall hl hm h7
        generalize bs (wordsL.getD k []) = T at *
        go_wp2
        go_roundw
        case rel => exact ⟨k + 1, by omega, by go_num, HM.out, rfl⟩
        case measure => simp [intOf]; omega

/-- A number's text read. -/
def NumC (l : List UInt8) (w : World) : Prop := Calls Tryz.prog 93 #[.string (bs l)] w fun e w' => e = .returned (.int .i64 (numI l)) ∧ w.grownBy w' none
set_option maxHeartbeats 1600000 in
theorem numin_no (l : List UInt8) (hl : l.length ≤ L48) (h : ∀ v, Lib.atoiAll l ≠ .ok v) (w : World) (hE : ErAt w) : NumC l w := by
  have ca := atoi_no l hl h w hE
  have hx : numI l = -1 := by
    unfold numI
    cases e : Lib.atoiAll l with
    | ok v => exact absurd e (h v)
    | range => rfl
    | _ => rfl
  unfold NumC
  rw [hx]
  clear hx hE h
  go_enter Tryz.func93, Tryz.ntmps93
  go_wp2_with (first | (go_at_call 119; refine ca.mono ?_; rintro e w' ⟨⟨n, N, rfl⟩, hg⟩))
  go_ret
  exact ⟨rfl, hg⟩
set_option maxHeartbeats 1600000 in
theorem numin_ok (l : List UInt8) (hl : l.length ≤ L48) (v : Int) (h : Lib.atoiAll l = .ok v) (w : World) : NumC l w := by
  have ca := atoi_ok l hl v h w
  have hx : numI l = if 0 ≤ v ∧ v ≤ 99 ∧ Lib.itoa v = l then v else -1 := by unfold numI; rw [h]
  unfold NumC
  rw [hx]
  clear hx h
  by_cases h0 : 0 ≤ v
  · by_cases h9 : v ≤ 99
    · obtain ⟨k, rfl⟩ := Int.eq_ofNat_of_zero_le h0
      have ci := itoa2_any k (by omega)
      rw [itoa_dec (by omega)]
      have n0 : ¬ ((k : Int) < 0) := by omega
      have n9 : ¬ (99 < (k : Int)) := by omega
      by_cases he : decL k = l
      · rw [if_pos ⟨h0, h9, he⟩]
        subst he
        go_enter Tryz.func93, Tryz.ntmps93
        go_wp2_with (first | (go_at_call 119; refine ca.mono ?_; rintro e w' ⟨rfl, hg⟩) | (go_at_call 54; refine (ci _).mono ?_; rintro e w' ⟨rfl, rfl⟩))
        go_ret
        exact ⟨rfl, hg⟩
      · rw [if_neg fun hh => he hh.2.2]
        have hn := bs_ne he
        rw [← toL_bs (decL k)] at hn
        go_enter Tryz.func93, Tryz.ntmps93
        go_wp2_with (first | (go_at_call 119; refine ca.mono ?_; rintro e w' ⟨rfl, hg⟩) | (go_at_call 54; refine (ci _).mono ?_; rintro e w' ⟨rfl, rfl⟩))
        go_ret
        exact ⟨rfl, hg⟩
    · rw [if_neg fun hh => h9 hh.2.1]
      have n0 : ¬ (v < 0) := by omega
      have n9 : 99 < v := by omega
      go_enter Tryz.func93, Tryz.ntmps93
      go_wp2_with (first | (go_at_call 119; refine ca.mono ?_; rintro e w' ⟨rfl, hg⟩))
      all_goals go_ret
      all_goals exact ⟨rfl, hg⟩
  · rw [if_neg fun hh => h0 hh.1]
    have n0 : v < 0 := by omega
    go_enter Tryz.func93, Tryz.ntmps93
    go_wp2_with (first | (go_at_call 119; refine ca.mono ?_; rintro e w' ⟨rfl, hg⟩))
    all_goals go_ret
    all_goals exact ⟨rfl, hg⟩
theorem num_any (l : List UInt8) (hl : l.length ≤ L48) (w : World) (hE : ErAt w) : NumC l w := by
  by_cases h : ∃ v, Lib.atoiAll l = .ok v
  · obtain ⟨v, h⟩ := h; exact numin_ok l hl v h w
  · exact numin_no l hl (fun v e => h ⟨v, e⟩) w hE

end Go.Proofs.YtlnffpofbfigaaaGreatDoor

/-
  A text parted at a byte, as the model parts it.
-/
namespace Go.Proofs.YtlnffpofbfigaaaGreatDoor
open Go.RowKit

theorem infoTx : (Tryz.prog.info? 9).map (fun i => (i.zero, i.size, i.bytes)) = some (some (.string ⟨#[]⟩), 1, 16) := by kernel_rfl
theorem ext_bs (l : List UInt8) (f k : Nat) : (bs l).extract f k = bs ((l.drop f).take (k - f)) := by
  refine bl_inj ?_
  show ((bs l).extract f k).data.toList = _
  rw [bl_bs, ByteArray.data_extract, Array.toList_extract]
  show List.take (k - f) (List.drop f l) = _
  rfl
theorem txC_snoc (L : List (List UInt8)) (c : List UInt8) : (L.map fun x => Value.string (bs x)) ++ [Value.string (bs c)] = (L ++ [c]).map fun x => Value.string (bs x) := by simp
theorem onetx_news (w : World) (s : ByteArray) : ∀ j u, ([Value.string s] : List Value)[j]? = some u → (w.alloc (.cells #[.string s] 9)).cell? ((⟨w.heap.size, 0, none⟩ : Addr).add j) = some u := by
  intro j u hj
  match j, hj with
  | 0, hj => simp at hj; subst hj; simp [Addr.add]
theorem onetx_cell (s : ByteArray) : ∀ u ∈ ([Value.string s] : List Value), u.oneCell' = true := by intro u hu; simp at hu; subst hu; rfl
/-- What was parted so far, and what is left. -/
def CtRel (p : UInt8) (l : List UInt8) (w : World) (v fv kv : Value) (wr : World) : Prop :=
  ∃ (L : List (List UInt8)) (f k : Nat), f ≤ k ∧ k ≤ l.length ∧ fv = .int .i64 f ∧ kv = .int .i64 k ∧ L.length ≤ k ∧ cutL p l = L ++ cutG p ((l.drop f).take (k - f)) (l.drop k) ∧ wr.ownsRow w.heap.size 9 1 v L.length (L.map fun x => Value.string (bs x)) ∧ w.grownBy wr none

theorem grTx_row {a b c : World} {base : Nat} {v : Value} {n : Nat} {xs : List Value} {e : TypeId} (h : a.grownBy b none) (ho : b.ownsRow base e 1 v n xs) (hb : a.heap.size ≤ base) (k : b.grownBy c v.ownBlock) : a.grownBy c none :=
  ⟨k.os.trans h.os, k.tape.trans h.tape, k.output.trans h.output, Nat.le_trans h.size k.size, fun i hi hne => by
    refine (k.block i (Nat.lt_of_lt_of_le hi h.size) fun e => ?_).trans (h.block i hi hne)
    have := World.ownsRow.lt ho i e.symm
    omega⟩
/-- The texts as they lie. -/
def TxsAt (w : World) (a : Option Addr) (L : List (List UInt8)) : Prop := ∃ g, a = some ⟨g, 0, none⟩ ∧ ∀ i, i < L.length → w.cell? ⟨g, i, none⟩ = some (.string (bs (L.getD i [])))
theorem TxsAt.grown {w w' : World} {a : Option Addr} {L : List (List UInt8)} (h : TxsAt w a L) (hg : w.grownBy w' none) : TxsAt w' a L := by
  obtain ⟨g, ha, hc⟩ := h
  exact ⟨g, ha, fun i hi => (World.cell?_of_block (w := w) (hg.block _ (World.block_lt_of_cell? w _ (hc i hi)) (by simp))).trans (hc i hi)⟩
theorem own_txs {w : World} {base : Nat} {v : Value} {L : List (List UInt8)} (h : w.ownsRow base 9 1 v L.length (L.map fun x => Value.string (bs x))) (hL : 1 ≤ L.length) : ∃ a cap, v = .slice a L.length cap ∧ TxsAt w a L := by
  rcases h.2 with ⟨rfl, h0⟩ | ⟨g, cap, cur, rfl, hb, _, hlc, hcc, _⟩
  · omega
  · refine ⟨some ⟨g, 0, none⟩, cap, rfl, g, rfl, fun i hi => ?_⟩
    have := World.ownsRow.cellAt h i (by omega)
    rw [this]
    simp [List.getD_eq_getElem?_getD, hi]
def ScPost (p : UInt8) (l : List UInt8) (w : World) (e : Ending) (w' : World) : Prop := ∃ a cap, e = .returned (.slice a (cutL p l).length cap) ∧ TxsAt w' a (cutL p l) ∧ w.grownBy w' none

set_option maxRecDepth 100000 in
set_option maxHeartbeats 4000000 in
theorem scut_any (p : UInt8) (l : List UInt8) (hl : l.length ≤ 2097152) (w : World) :
    Calls Tryz.prog 73 #[.string (bs l), .int .u8 (p.toNat : Int)] w (ScPost p l w) := by
  have hz := bs_size l
  obtain ⟨i0, hi, hz0, hz1, hz2⟩ := info_parts infoTx
  have o1 := World.ownsRow_lit (e := 9) (size := 1) w #[] 0 (Nat.le_refl _) (by unfold maxLen; omega) rfl
  have g1 := World.grownBy_alloc w (.cells #[] 9) none
  go_enter Tryz.func73, Tryz.ntmps73
  go_wp2
  go_loopw [5, 6, 7] (fun v fv kv wr => CtRel p l w v fv kv wr) (fun _ _ kv _ => l.length - (intOf kv).toNat)
  case atStart => exact ⟨[], 0, 0, by omega, by omega, rfl, rfl, by simp, by simp [cutL], o1, g1⟩
  case round =>
    obtain ⟨L, f, k, hfk, hkl, rfl, rfl, hLk, hcut, hown, hgr⟩ := hrel
    have e9 := ext_bs l f k
    have hA := World.ownsRow.alloc hown (.cells #[.string ((bs l).extract f k)] 9)
    by_cases hlt : k < l.length
    · obtain ⟨c, r, hd⟩ : ∃ c r, l.drop k = c :: r := by
        cases hx : l.drop k with
        | nil => have := congrArg List.length hx; simp at this; omega
        | cons c r => exact ⟨c, r, rfl⟩
      have hidx := idx_run (s := bs l) (p := k) hd
      have hd1 : l.drop (k + 1) = r := by rw [← List.drop_drop, hd]; rfl
      have w1 : wrap64 ((k : Int) + 1) = (k : Int) + 1 := by unfold wrap64; omega
      by_cases hc : c = p
      · subst hc
        rw [hd, cutG_hit] at hcut
        have hcut2 : cutL c l = (L ++ [(l.drop f).take (k - f)]) ++ cutG c ((l.drop (k + 1)).take (k + 1 - (k + 1))) (l.drop (k + 1)) := by rw [hcut, hd1]; simp
        have HC := Lib.hid hcut2
        have HG := Lib.hid hgr
        have E9 := Lib.hid e9
        clear hcut hcut2 hd hd1 e9 hown hgr
        go_wp2_with (at_builtin; refine wpList_append_own _ rfl _ _ 49 rfl w.heap.size 9 i0 (.string ⟨#[]⟩) 1 16 Tryz.underlying49 hi hz0 hz1 hz2 rfl (by decide) _ _ _ rfl hA ⟨wr.heap.size, 0, none⟩ 1 1 [.string ((bs l).extract f k)] rfl rfl (onetx_news _ _) (onetx_cell _) ?c3 ?c4 ?c5 ?_)
        case c3 => unfold maxLen; omega
        case c4 => omega
        case c5 => have := HG.out.size; simp; omega
        intro v' w3 hown' hgrow _
        have G3 := Lib.hid (grTx_row (grownBy_trans HG.out (World.grownBy_alloc wr (.cells #[.string ((bs l).extract f k)] 9) none)) hA (Nat.le_refl _) hgrow)
        rw [E9.out, txC_snoc] at hown'
        rw [show L.length + 1 = (L ++ [(l.drop f).take (k - f)]).length by simp] at hown'
        have O3 := Lib.hid hown'
        clear hown' hgrow hA hidx
        go_wp2
        go_roundw
        case rel => exact ⟨L ++ [(l.drop f).take (k - f)], k + 1, k + 1, by omega, by omega, by go_num, by go_num, by simp; omega, HC.out, O3.out, G3.out⟩
        case measure => simp [intOf]; omega
      · have hne : ((c.toNat : Int) == (p.toNat : Int)) = false := beq_false_of_ne fun e => hc (UInt8.toNat_inj.1 (by exact_mod_cast e))
        have hne2 : ¬ (c.toNat = p.toNat) := fun e => hc (UInt8.toNat_inj.1 e)
        rw [hd, cutG_miss _ _ hc] at hcut
        have hcut2 : cutL p l = L ++ cutG p ((l.drop f).take (k + 1 - f)) (l.drop (k + 1)) := by
          rw [hcut, hd1, show k + 1 - f = (k - f) + 1 by omega, List.take_add_one]
          congr 2
          rw [List.getElem?_drop, show f + (k - f) = k by omega]
          have : l[k]? = some c := by have := congrArg (fun x => x[0]?) hd; simpa using this
          rw [this]; rfl
        have HC := Lib.hid hcut2
        have HG := Lib.hid hgr
        have HO := Lib.hid hown
        clear hcut hcut2 hd hd1 e9 hown hgr hA
        go_wp2
        go_roundw
        case rel => exact ⟨L, f, k + 1, by omega, by omega, rfl, by go_num, by omega, HC.out, HO.out, HG.out⟩
        case measure => simp [intOf]; omega
    · obtain rfl : k = l.length := by omega
      rw [List.drop_length, cutG_nil] at hcut
      have HC := Lib.hid hcut
      have HG := Lib.hid hgr
      have E9 := Lib.hid e9
      clear hcut e9 hown hgr
      go_wp2_with (at_builtin; refine wpList_append_own _ rfl _ _ 49 rfl w.heap.size 9 i0 (.string ⟨#[]⟩) 1 16 Tryz.underlying49 hi hz0 hz1 hz2 rfl (by decide) _ _ _ rfl hA ⟨wr.heap.size, 0, none⟩ 1 1 [.string ((bs l).extract f l.length)] rfl rfl (onetx_news _ _) (onetx_cell _) ?d3 ?d4 ?d5 ?_)
      case d3 => unfold maxLen; omega
      case d4 => omega
      case d5 => have := HG.out.size; simp; omega
      intro v' w3 hown' hgrow _
      have G3 := Lib.hid (grTx_row (grownBy_trans HG.out (World.grownBy_alloc wr (.cells #[.string ((bs l).extract f l.length)] 9) none)) hA (Nat.le_refl _) hgrow)
      rw [E9.out, txC_snoc, ← HC.out, show L.length + 1 = (cutL p l).length by rw [HC.out]; simp] at hown'
      obtain ⟨a, cap, rfl, hS⟩ := own_txs hown' (by rw [HC.out]; simp)
      clear hown' hgrow hA
      go_wp2
      go_ret
      exact ⟨a, cap, rfl, hS, G3.out⟩

end Go.Proofs.YtlnffpofbfigaaaGreatDoor

/-
  A number's text read, as the model reads it.
-/
namespace Go.Proofs.YtlnffpofbfigaaaGreatDoor
open Go.RowKit

/-! The walks. -/
theorem digV_le (c : UInt8) (h : isD c = true) : 0 ≤ digV c ∧ digV c ≤ 9 := inB_of h
theorem isD_ways (c : UInt8) : (isD c = true ∧ ¬ (c.toNat : Int) < 48 ∧ ¬ 57 < (c.toNat : Int)) ∨ (isD c = false ∧ ((c.toNat : Int) < 48 ∨ (¬ (c.toNat : Int) < 48 ∧ 57 < (c.toNat : Int)))) := by
  by_cases g : (c.toNat : Int) < 48
  · exact .inr ⟨inB_f (by unfold digV; omega), .inl g⟩
  · by_cases g2 : 57 < (c.toNat : Int)
    · exact .inr ⟨inB_f (by unfold digV; omega), .inr ⟨g, g2⟩⟩
    · exact .inl ⟨inB_t (by unfold digV; omega), g, g2⟩
def DgRel1 (c : UInt8) (w : World) (nv kv : Value) (wr : World) : Prop := w = wr ∧ ((nv = .int .i64 0 ∧ kv = .int .i64 0) ∨ (isD c = true ∧ nv = .int .i64 ((c.toNat : Int) - 48) ∧ kv = .int .i64 1))
def DgRel2 (c d : UInt8) (w : World) (nv kv : Value) (wr : World) : Prop := w = wr ∧ ((nv = .int .i64 0 ∧ kv = .int .i64 0) ∨ (isD c = true ∧ nv = .int .i64 ((c.toNat : Int) - 48) ∧ kv = .int .i64 1) ∨ (isD c = true ∧ isD d = true ∧ nv = .int .i64 (10 * ((c.toNat : Int) - 48) + ((d.toNat : Int) - 48)) ∧ kv = .int .i64 2))
set_option maxRecDepth 8000 in
set_option maxHeartbeats 4000000 in
theorem sdig_1 (c : UInt8) (w : World) :
    Calls Tryz.prog 76 #[.string (bs [c])] w fun e w' => e = .returned (.int .i64 (digI [c])) ∧ w = w' := by
  have hz : (bs [c]).size = 1 := bs_size [c]
  have cn := in_any 1 1 2
  rw [show inB 1 1 2 = true from rfl] at cn
  have hidx0 : ∀ w : World, (Instr.index 9 (.string (bs [c])) (.int .i64 0)).run Tryz.prog w = .ok (.int .u8 (c.toNat : Int)) w := fun w => idx_run (s := bs [c]) (p := 0) (c := c) rfl w
  have hlt := c.toNat_lt
  obtain ⟨S, hS⟩ : ∃ S, bs [c] = S := ⟨_, rfl⟩
  rw [hS] at hz hidx0 ⊢
  clear hS
  go_enter Tryz.func76, Tryz.ntmps76
  go_wp2_with (first | (go_at_call 96; refine (cn _).mono ?_; rintro e w' ⟨rfl, rfl⟩))
  clear cn
  go_loopw [3, 4] (fun nv kv wr => DgRel1 c w nv kv wr) (fun _ kv _ => 1 - (intOf kv).toNat)
  case atStart => exact ⟨rfl, .inl ⟨rfl, rfl⟩⟩
  case round =>
    obtain ⟨rfl, hrel⟩ := hrel
    rcases hrel with ⟨rfl, rfl⟩ | ⟨hc, rfl, rfl⟩
    · rcases isD_ways c with ⟨hx, g1, g2⟩ | ⟨hx, g1 | ⟨g1, g2⟩⟩
      · have wx : IntKind.u8.wrap ((c.toNat : Int) - 48) = (c.toNat : Int) - 48 := by rw [IntKind.wrap_u8]; omega
        have wy : wrap64 ((c.toNat : Int) - 48) = (c.toNat : Int) - 48 := by unfold wrap64; omega
        go_wp2
        go_roundw
        case rel => exact ⟨rfl, .inr ⟨hx, by go_num, rfl⟩⟩
        case measure => simp [intOf]
      · go_wp2
        go_ret
        exact ⟨by rw [digI_one_no hx]; rfl, rfl⟩
      · go_wp2
        go_ret
        exact ⟨by rw [digI_one_no hx]; rfl, rfl⟩
    · go_wp2
      go_ret
      exact ⟨by rw [digI_one hc]; rfl, rfl⟩

set_option maxRecDepth 8000 in
set_option maxHeartbeats 4000000 in
theorem sdig_2 (c d : UInt8) (h48 : c ≠ 48) (w : World) :
    Calls Tryz.prog 76 #[.string (bs [c, d])] w fun e w' => e = .returned (.int .i64 (digI [c, d])) ∧ w = w' := by
  have hz : (bs [c, d]).size = 2 := bs_size [c, d]
  have cn := in_any 2 1 2
  rw [show inB 2 1 2 = true from rfl] at cn
  have hidx0 : ∀ w : World, (Instr.index 9 (.string (bs [c, d])) (.int .i64 0)).run Tryz.prog w = .ok (.int .u8 (c.toNat : Int)) w := fun w => idx_run (s := bs [c, d]) (p := 0) (c := c) rfl w
  have hidx1 : ∀ w : World, (Instr.index 9 (.string (bs [c, d])) (.int .i64 1)).run Tryz.prog w = .ok (.int .u8 (d.toNat : Int)) w := fun w => idx_run (s := bs [c, d]) (p := 1) (c := d) (r := []) rfl w
  have hne : ((c.toNat : Int) == 48) = false := beq_false_of_ne fun e => h48 (UInt8.toNat_inj.1 (by rw [show (48 : UInt8).toNat = 48 from rfl]; omega))
  have hlt := c.toNat_lt
  have hlt2 := d.toNat_lt
  obtain ⟨S, hS⟩ : ∃ S, bs [c, d] = S := ⟨_, rfl⟩
  rw [hS] at hz hidx0 hidx1 ⊢
  clear hS
  go_enter Tryz.func76, Tryz.ntmps76
  go_wp2_with (first | (go_at_call 96; refine (cn _).mono ?_; rintro e w' ⟨rfl, rfl⟩))
  clear cn
  go_loopw [3, 4] (fun nv kv wr => DgRel2 c d w nv kv wr) (fun _ kv _ => 2 - (intOf kv).toNat)
  case atStart => exact ⟨rfl, .inl ⟨rfl, rfl⟩⟩
  case round =>
    obtain ⟨rfl, hrel⟩ := hrel
    rcases hrel with ⟨rfl, rfl⟩ | ⟨hc, rfl, rfl⟩ | ⟨hc, hd, rfl, rfl⟩
    · rcases isD_ways c with ⟨hx, g1, g2⟩ | ⟨hx, g1 | ⟨g1, g2⟩⟩
      · have wx : IntKind.u8.wrap ((c.toNat : Int) - 48) = (c.toNat : Int) - 48 := by rw [IntKind.wrap_u8]; omega
        have wy : wrap64 ((c.toNat : Int) - 48) = (c.toNat : Int) - 48 := by unfold wrap64; omega
        go_wp2
        go_roundw
        case rel => exact ⟨rfl, .inr (.inl ⟨hx, by go_num, rfl⟩)⟩
        case measure => simp [intOf]
      · go_wp2
        go_ret
        exact ⟨by rw [digI_two_no (.inl hx)]; rfl, rfl⟩
      · go_wp2
        go_ret
        exact ⟨by rw [digI_two_no (.inl hx)]; rfl, rfl⟩
    · rcases isD_ways d with ⟨hx, g1, g2⟩ | ⟨hx, g1 | ⟨g1, g2⟩⟩
      · have wx : IntKind.u8.wrap ((d.toNat : Int) - 48) = (d.toNat : Int) - 48 := by rw [IntKind.wrap_u8]; omega
        have hcv := digV_le c hc
        unfold digV at hcv
        have wy : wrap64 (10 * ((c.toNat : Int) - 48)) = 10 * ((c.toNat : Int) - 48) := by unfold wrap64; omega
        have wz : wrap64 (10 * ((c.toNat : Int) - 48) + ((d.toNat : Int) - 48)) = 10 * ((c.toNat : Int) - 48) + ((d.toNat : Int) - 48) := by unfold wrap64; omega
        go_wp2
        go_roundw
        case rel => exact ⟨rfl, .inr (.inr ⟨hc, hx, by go_num, rfl⟩)⟩
        case measure => simp [intOf]
      · go_wp2
        go_ret
        exact ⟨by rw [digI_two_no (.inr (.inl hx))]; rfl, rfl⟩
      · go_wp2
        go_ret
        exact ⟨by rw [digI_two_no (.inr (.inl hx))]; rfl, rfl⟩
    · go_wp2
      go_ret
      exact ⟨by rw [digI_two hc hd h48]; rfl, rfl⟩

set_option maxHeartbeats 1000000 in
theorem sdig_zero (d : UInt8) (w : World) :
    Calls Tryz.prog 76 #[.string (bs [48, d])] w fun e w' => e = .returned (.int .i64 (digI [48, d])) ∧ w = w' := by
  have hz : (bs [48, d]).size = 2 := bs_size [48, d]
  have cn := in_any 2 1 2
  rw [show inB 2 1 2 = true from rfl] at cn
  have hidx0 : ∀ w : World, (Instr.index 9 (.string (bs [48, d])) (.int .i64 0)).run Tryz.prog w = .ok (.int .u8 48) w := fun w => idx_run (s := bs [48, d]) (p := 0) (c := 48) rfl w
  rw [digI_two_no (.inr (.inr rfl))]
  obtain ⟨S, hS⟩ : ∃ S, bs [48, d] = S := ⟨_, rfl⟩
  rw [hS] at hz hidx0 ⊢
  clear hS
  go_enter Tryz.func76, Tryz.ntmps76
  go_wp2_with (first | (go_at_call 96; refine (cn _).mono ?_; rintro e w' ⟨rfl, rfl⟩))
  go_ret
  exact ⟨rfl, rfl⟩
set_option maxHeartbeats 1000000 in
theorem sdig_len (l : List UInt8) (h : l = [] ∨ 2 < l.length) (hl : l.length ≤ 2097152) (w : World) :
    Calls Tryz.prog 76 #[.string (bs l)] w fun e w' => e = .returned (.int .i64 (digI l)) ∧ w = w' := by
  have hz := bs_size l
  have cn := in_any (l.length : Int) 1 2
  rw [show inB (l.length : Int) 1 2 = false from inB_f (by rcases h with rfl | h <;> simp <;> omega)] at cn
  rw [show digI l = -1 from by rcases h with rfl | h; exact digI_nil; exact digI_long h]
  clear h
  generalize bs l = S at *
  go_enter Tryz.func76, Tryz.ntmps76
  go_wp2_with (first | (go_at_call 96; refine (cn _).mono ?_; rintro e w' ⟨rfl, rfl⟩))
  go_ret
  exact ⟨rfl, rfl⟩
theorem sdig_any (l : List UInt8) (hl : l.length ≤ 2097152) (w : World) :
    Calls Tryz.prog 76 #[.string (bs l)] w fun e w' => e = .returned (.int .i64 (digI l)) ∧ w = w' := by
  match l, hl with
  | [], hl => exact sdig_len [] (.inl rfl) hl w
  | [c], _ => exact sdig_1 c w
  | [c, d], _ =>
    by_cases h : c = 48
    · subst h; exact sdig_zero d w
    · exact sdig_2 c d h w
  | c :: d :: e :: r, hl => exact sdig_len _ (.inr (by simp)) hl w

end Go.Proofs.YtlnffpofbfigaaaGreatDoor
