/-
  Joined out of the texts DVd, DVe, DVf, DTe, DTj, DVg, Ques, Ques2, Ques3, SeqO, Withs, CntI, FolI, DOp, DX1, DX2, DX3, DX5, DX6, DX7, DX4, DX8, DRowD, DDkA, DTf, DVh, DTg, DTh, DXD, DTp, DDs, DTs, DTt, DTk, DTl, DTm, DTu, DVi: what each holds is told at its head.
-/
import Derived.Test.YtlnffpofbfigaaaGreatDoorZFnDeskLine
import Derived.Test.YtlnffpofbfigaaaGreatDoorDSpec
import Derived.Test.YtlnffpofbfigaaaGreatDoorDRow
import Derived.Test.YtlnffpofbfigaaaGreatDoorSignMap
import Derived.Test.YtlnffpofbfigaaaGreatDoorFSpec
import Derived.Laws.AppendOwn
import Derived.Test.YtlnffpofbfigaaaGreatDoorDeskR
import Derived.Test.YtlnffpofbfigaaaGreatDoorSfd
import Derived.Lib.SplitLaws
import Derived.Test.YtlnffpofbfigaaaGreatDoorPair
import Derived.Deep.AppendLies
import Derived.Deep.RegionLaw
import Derived.RangeFuncBox
import Derived.RangeFuncNested
import Derived.RangeFuncBound
import Derived.RangeFuncCalls
import Derived.RangeFuncLeaves
import Derived.Test.YtlnffpofbfigaaaGreatDoorBase
import Derived.Deep.Slices
import Derived.Deep.Fields
import Derived.Lib.SmallJoins
import Derived.Test.YtlnffpofbfigaaaGreatDoorDWa
import Derived.Test.YtlnffpofbfigaaaGreatDoorDSame
import Derived.Test.YtlnffpofbfigaaaGreatDoorDeskN
import Derived.Laws.IdiomStrings
import Derived.Test.YtlnffpofbfigaaaGreatDoorDDraw
import Derived.Test.YtlnffpofbfigaaaGreatDoorDDo2
import Derived.Test.YtlnffpofbfigaaaGreatDoorADraw
import Derived.Deep.RegionWith
import Derived.Test.YtlnffpofbfigaaaGreatDoorFTree
import Derived.Test.YtlnffpofbfigaaaGreatDoorDTc
import Derived.Maps.AppendAt
import Derived.Test.YtlnffpofbfigaaaGreatDoorDraw4
import Derived.Test.YtlnffpofbfigaaaGreatDoorDCl

/-
  What the answers are made of is small; the questions of one word: the landed code's.
-/
namespace Go.Proofs.YtlnffpofbfigaaaGreatDoor
open Go.RowKit

/-- The chain and the formula of a desk. -/
def NowOk (N : Nat) (l : List UInt8) : Prop := (1 ≤ N ∧ N ≤ 6) ∧ ∃ t : Tr, fOf l = some t
theorem lsI_99 {N : Nat} {l : List UInt8} (h : NowOk N l) : ∃ k : Nat, lsI l = k ∧ k < 100 := by
  obtain ⟨_, t, ht⟩ := h
  have := (fOf_some ht).2
  have := ls_le t
  exact ⟨t.ls, lsI_t ht, by omega⟩
theorem movI_99 {N : Nat} {l : List UInt8} (h : NowOk N l) : ∃ k : Nat, movI N l = k ∧ k < 100 := by
  obtain ⟨hN, t, ht⟩ := h
  have h1 := (fOf_some ht).2
  have h2 := ls_le t
  have h3 := movU_le hN t (cub N) (Nat.le_refl _)
  have h4 := movU_pos N t (cub N)
  obtain ⟨k, hk⟩ := Int.eq_ofNat_of_zero_le h4
  refine ⟨k, by rw [movI_t ht (inB_nat hN), hk], by omega⟩
theorem chI_99 (l : List UInt8) : Num99 (chI l) ∧ (chI l).length ≤ 6 := by
  refine ⟨fun x hx => ?_, ?_⟩
  · unfold chI at hx
    have := List.mem_filter.1 hx
    have := this.1
    simp at this
    omega
  · unfold chI
    exact Nat.le_trans (List.length_filter_le _ _) (by simp)
theorem saidL_99 {N : Nat} {l : List UInt8} (h : NowOk N l) : Num99 (saidL N l) ∧ (saidL N l).length ≤ 7 := by
  obtain ⟨hN, t, ht⟩ := h
  rw [saidL_t ht (inB_nat hN)]
  refine ⟨fun x hx => ?_, by rw [saidTo_len]; omega⟩
  obtain ⟨v, hv, rfl⟩ := List.mem_map.1 hx
  have hv' := List.mem_range.1 hv
  have := vokB_of (val_ok (thr_nat hN (a := v) (b := v) (c := v) (by omega) (by omega) (by omega)) t)
  omega
theorem agL_99 {N : Nat} {l : List UInt8} (h : NowOk N l) : Num99 (agL N l) ∧ (agL N l).length ≤ 3 := by
  obtain ⟨hN, _⟩ := h
  unfold agL
  split
  · rename_i k _
    rw [Int.toNat_natCast]
    have a := tA_le N k
    have b := tB_le N k
    have c := tC_le N k
    refine ⟨fun x hx => ?_, by simp⟩
    simp at hx
    rcases hx with rfl | rfl | rfl <;> omega
  · exact ⟨fun x hx => by simp at hx, by simp⟩

def AnPost (v : ByteArray) (w : World) (e : Ending) (w' : World) : Prop := e = .returned (.string v) ∧ w.grownBy w' none

set_option maxRecDepth 8000 in
set_option maxHeartbeats 2000000 in
theorem q0_any (N : Nat) (s : List UInt8) (x : Value) (w : World) (h : NowOk N s) :
    Calls Tryz.prog 122 #[.agg #[.int .i64 N, .string (bs s), x]] w (AnPost (ansQ N s 0) w) := by
  have ci := itoa2_any N (by have := h.1; omega)
  have g1 := World.grownBy_alloc w (.cells #[.int .i64 N, .string (bs s), x] 32) none
  go_enter Tryz.func122, Tryz.ntmps122
  go_wp2_with (first | (go_at_call 54; (with_reducible refine (ci _).mono ?_); rintro e w2 ⟨rfl, rfl⟩))
  go_ret
  exact ⟨rfl, g1⟩

end Go.Proofs.YtlnffpofbfigaaaGreatDoor

/-
  The questions of one word, the others: the landed code's.
-/
namespace Go.Proofs.YtlnffpofbfigaaaGreatDoor
open Go.RowKit

set_option maxRecDepth 8000 in
set_option maxHeartbeats 2000000 in
theorem q1_any (N : Nat) (s : List UInt8) (x : Value) (w : World) :
    Calls Tryz.prog 123 #[.agg #[.int .i64 N, .string (bs s), x]] w (AnPost (ansQ N s 1) w) := by
  have g1 := World.grownBy_alloc w (.cells #[.int .i64 N, .string (bs s), x] 32) none
  go_enter Tryz.func123, Tryz.ntmps123
  go_wp2_with fail
  go_ret
  exact ⟨rfl, g1⟩

set_option maxRecDepth 8000 in
set_option maxHeartbeats 2000000 in
theorem q2_any (N : Nat) (s : List UInt8) (x : Value) (w : World) :
    Calls Tryz.prog 124 #[.agg #[.int .i64 N, .string (bs s), x]] w (AnPost (ansQ N s 2) w) := by
  have g1 := Lib.hid (World.grownBy_alloc w (.cells #[.int .i64 N, .string (bs s), x] 32) none)
  have ca := always_any N (bs s)
  rw [bl_bs] at ca
  show Calls _ _ _ _ (AnPost (yesA (alwB N s)) w)
  generalize alwB N s = b at *
  have cy := iyes_any b
  generalize yesA b = Y at *
  go_enter Tryz.func124, Tryz.ntmps124
  go_wp2_with (first | (go_at_call 150; (with_reducible refine (ca _).mono ?_); rintro e w2 ⟨rfl, hg⟩) | (go_at_call 134; (with_reducible refine (cy _).mono ?_); rintro e w3 ⟨rfl, rfl⟩))
  go_ret
  exact ⟨rfl, grownBy_trans g1.out hg⟩

set_option maxRecDepth 8000 in
set_option maxHeartbeats 2000000 in
theorem q3_any (N : Nat) (s : List UInt8) (x : Value) (w : World) :
    Calls Tryz.prog 125 #[.agg #[.int .i64 N, .string (bs s), x]] w (AnPost (ansQ N s 3) w) := by
  have g1 := Lib.hid (World.grownBy_alloc w (.cells #[.int .i64 N, .string (bs s), x] 32) none)
  have HB := Lib.hid (CellsAt.new w #[.int .i64 N, .string (bs s), x] 32)
  have ca := least_any N (bs s)
  rw [bl_bs] at ca
  show Calls _ _ _ _ (AnPost (vtext N (leastI N s)) w)
  generalize leastI N s = v at *
  have ct := text_any N v
  unfold StrPost at ct
  generalize vtext N v = Y at *
  go_enter Tryz.func125, Tryz.ntmps125
  go_wp2_with fail
  go_region_with (first | (go_at_call 151; (with_reducible refine (ca _).mono ?_); rintro e w2 ⟨rfl, hg⟩; obtain ⟨c0, c1, c2⟩ := (HB.out.grown (drew_grown hg)).three; have G2 := Lib.hid (drew_grown hg)) | (go_at_call 133; (with_reducible refine (ct _).mono ?_); rintro e w3 ⟨rfl, hg2⟩))
  all_goals go_wp2_with fail
  all_goals go_ret
  all_goals exact ⟨rfl, grownBy_trans g1.out (grownBy_trans G2.out hg2)⟩

set_option maxRecDepth 8000 in
set_option maxHeartbeats 2000000 in
theorem q4_any (N : Nat) (s : List UInt8) (x : Value) (w : World) (h : NowOk N s) :
    Calls Tryz.prog 126 #[.agg #[.int .i64 N, .string (bs s), x]] w (AnPost (ansQ N s 4) w) := by
  have g1 := Lib.hid (World.grownBy_alloc w (.cells #[.int .i64 N, .string (bs s), x] 32) none)
  have ca := agof_any N (bs s)
  rw [bl_bs] at ca
  show Calls _ _ _ _ (AnPost (rowA (agL N s)) w)
  cases hk : agI N s with
  | none =>
    rw [agV_n hk] at ca
    have e : agL N s = [] := by unfold agL; rw [hk]
    rw [e, rowA_nil]
    clear e hk
    go_enter Tryz.func126, Tryz.ntmps126
    go_wp2_with (first | (go_at_call 152; (with_reducible refine (ca _).mono ?_); rintro e w2 ⟨rfl, hg⟩))
    go_ret
    exact ⟨rfl, grownBy_trans g1.out hg⟩
  | some k =>
    rw [agV_s hk] at ca
    have e : agL N s = [(tA N k : Int), (tB N k : Int), (tC N k : Int)] := by unfold agL; rw [hk]; rfl
    have hb := agL_99 h
    rw [e] at hb ⊢
    have cn : ∀ W : World, Calls Tryz.prog 153 #[.slice (some ⟨W.heap.size, 0, none⟩) 3 3] (W.alloc (.cells #[.int .i64 (tA N k), .int .i64 (tB N k), .int .i64 (tC N k)] 3)) fun e w' => e = .returned (.string (rowA [(tA N k : Int), (tB N k : Int), (tC N k : Int)])) ∧ (W.alloc (.cells #[.int .i64 (tA N k), .int .i64 (tB N k), .int .i64 (tC N k)] 3)).grownBy w' none := fun W => by
      have hc := CellsAt.new W #[.int .i64 (tA N k), .int .i64 (tB N k), .int .i64 (tC N k)] 3
      exact nums_any [(tA N k : Int), (tB N k : Int), (tC N k : Int)] hb.1 (by simp) (some ⟨W.heap.size, 0, none⟩) 3 _ ⟨by unfold maxLen; simp, .inr ⟨W.heap.size, 0, rfl, hc.lt, fun i hi => by
        match i, hi with
        | 0, _ => exact hc.cell rfl
        | 1, _ => exact hc.cell rfl
        | 2, _ => exact hc.cell rfl⟩⟩
    clear e hk hb
    generalize (tA N k : Int) = A0 at *
    generalize (tB N k : Int) = B0 at *
    generalize (tC N k : Int) = C0 at *
    generalize rowA [A0, B0, C0] = Y at *
    go_enter Tryz.func126, Tryz.ntmps126
    go_wp2_with (first | (go_at_call 152; (with_reducible refine (ca _).mono ?_); rintro e w2 ⟨rfl, hg⟩) | (go_at_call 153; (with_reducible refine (cn _).mono ?_); rintro e w3 ⟨rfl, hg3⟩))
    go_ret
    exact ⟨rfl, grownBy_trans (grownBy_trans g1.out hg) (grownBy_trans (World.grownBy_alloc _ _ none) hg3)⟩

set_option maxRecDepth 8000 in
set_option maxHeartbeats 2000000 in
theorem q5_any (N : Nat) (s : List UInt8) (x : Value) (w : World) :
    Calls Tryz.prog 127 #[.agg #[.int .i64 N, .string (bs s), x]] w (AnPost (ansQ N s 5) w) := by
  have g1 := Lib.hid (World.grownBy_alloc w (.cells #[.int .i64 N, .string (bs s), x] 32) none)
  have ca := chains_any (bs s)
  rw [bl_bs] at ca
  unfold IntsPost at ca
  show Calls _ _ _ _ (AnPost (rowA (chI s)) w)
  obtain ⟨hb, hl⟩ := chI_99 s
  generalize chI s = L at *
  have cn := fun a cap W h => nums_any L hb (by omega) a cap W h
  have HL := Lib.hid (show L.length ≤ maxLen by unfold maxLen; omega)
  clear hb hl
  generalize rowA L = Y at *
  go_enter Tryz.func127, Tryz.ntmps127
  go_wp2_with (first | (go_at_call 154; (with_reducible refine (ca _).mono ?_); rintro e w2 ⟨a, cap, rfl, ho, hg⟩; have HO := Lib.hid (ho.at HL.out); clear ho) | (go_at_call 153; (with_reducible refine (cn _ _ _ HO.out).mono ?_); rintro e w3 ⟨rfl, hg3⟩))
  go_ret
  exact ⟨rfl, grownBy_trans (grownBy_trans g1.out hg) hg3⟩

set_option maxRecDepth 8000 in
set_option maxHeartbeats 2000000 in
theorem q6_any (N : Nat) (s : List UInt8) (x : Value) (w : World) (h : NowOk N s) :
    Calls Tryz.prog 128 #[.agg #[.int .i64 N, .string (bs s), x]] w (AnPost (ansQ N s 6) w) := by
  have g1 := Lib.hid (World.grownBy_alloc w (.cells #[.int .i64 N, .string (bs s), x] 32) none)
  have ca := letters_any (bs s)
  obtain ⟨k, hk, hk9⟩ := lsI_99 h
  rw [bl_bs, hk] at ca
  have ci := itoa2_any k hk9
  show Calls _ _ _ _ (AnPost (bs (decL (lsI s).toNat)) w)
  rw [hk, Int.toNat_natCast]
  clear hk hk9
  generalize bs (decL k) = Y at *
  go_enter Tryz.func128, Tryz.ntmps128
  go_wp2_with (first | (go_at_call 155; (with_reducible refine (ca _).mono ?_); rintro e w2 ⟨rfl, hg⟩) | (go_at_call 54; (with_reducible refine (ci _).mono ?_); rintro e w3 ⟨rfl, rfl⟩))
  go_ret
  exact ⟨rfl, grownBy_trans g1.out hg⟩

set_option maxRecDepth 8000 in
set_option maxHeartbeats 2000000 in
theorem q7_any (N : Nat) (s : List UInt8) (x : Value) (w : World) (h : NowOk N s) :
    Calls Tryz.prog 129 #[.agg #[.int .i64 N, .string (bs s), x]] w (AnPost (ansQ N s 7) w) := by
  have g1 := Lib.hid (World.grownBy_alloc w (.cells #[.int .i64 N, .string (bs s), x] 32) none)
  obtain ⟨k, hk, hk9⟩ := movI_99 h
  have ca := mov_v mov_any N (bs s) (v := (k : Int)) (by rw [bl_bs]; exact hk)
  have ci := itoa2_any k hk9
  show Calls _ _ _ _ (AnPost (bs (decL (movI N s).toNat)) w)
  rw [hk, Int.toNat_natCast]
  clear hk hk9
  generalize bs (decL k) = Y at *
  go_enter Tryz.func129, Tryz.ntmps129
  go_wp2_with (first | (go_at_call 156; (with_reducible refine (ca _).mono ?_); rintro e w2 ⟨rfl, hg⟩) | (go_at_call 54; (with_reducible refine (ci _).mono ?_); rintro e w3 ⟨rfl, rfl⟩))
  all_goals go_ret
  all_goals exact ⟨rfl, grownBy_trans g1.out hg⟩

set_option maxRecDepth 8000 in
set_option maxHeartbeats 2000000 in
theorem q8_any (N : Nat) (s : List UInt8) (x : Value) (w : World) (h : NowOk N s) :
    Calls Tryz.prog 130 #[.agg #[.int .i64 N, .string (bs s), x]] w (AnPost (ansQ N s 8) w) := by
  have g1 := Lib.hid (World.grownBy_alloc w (.cells #[.int .i64 N, .string (bs s), x] 32) none)
  obtain ⟨hb, hl⟩ := saidL_99 h
  have ca := said_v isaid_any N (bs s) (xs := saidL N s) (by rw [bl_bs])
  unfold IntsPost at ca
  show Calls _ _ _ _ (AnPost (rowA (saidL N s)) w)
  generalize saidL N s = L at *
  have cn := fun a cap W h => nums_any L hb (by omega) a cap W h
  have HL := Lib.hid (show L.length ≤ maxLen by unfold maxLen; omega)
  clear hb hl
  generalize rowA L = Y at *
  go_enter Tryz.func130, Tryz.ntmps130
  go_wp2_with (first | (go_at_call 157; (with_reducible refine (ca _).mono ?_); rintro e w2 ⟨a, cap, rfl, ho, hg⟩; have HO := Lib.hid (ho.at HL.out); clear ho) | (go_at_call 153; (with_reducible refine (cn _ _ _ HO.out).mono ?_); rintro e w3 ⟨rfl, hg3⟩))
  all_goals go_ret
  all_goals exact ⟨rfl, grownBy_trans (grownBy_trans g1.out hg) hg3⟩

end Go.Proofs.YtlnffpofbfigaaaGreatDoor

/-
  The map of the questions by their words: the landed code's.
-/
namespace Go.Proofs.YtlnffpofbfigaaaGreatDoor
open Go.RowKit Go.Maps Go.Joins

def wQ (l : List UInt8) : Lit := .string l
theorem wQ_of (l : List UInt8) (h : l.length ≤ maxLen) : keyOf Tryz.prog 9 (.string (bs l)) = some (wQ l) := WideMaps.keyOf_string_mk Tryz.underlying9 (by rw [bs_size]; exact h)
set_option maxRecDepth 100000 in
theorem zeroAsk (w : World) : (zeroValue 123).run Tryz.prog w = .ok .nilFunc w := rfl
def askF : Nat → FuncId
  | 0 => 122
  | 1 => 123
  | 2 => 124
  | 3 => 125
  | 4 => 126
  | 5 => 127
  | 6 => 128
  | 7 => 129
  | _ => 130
def quesD : DataW Value := ((((((((((DataW.map [] : DataW Value).put (wQ [115, 116, 101, 112, 115]) (.held (fnV (askF 0)))).put (wQ [116, 101, 120, 116]) (.held (fnV (askF 1)))).put (wQ [97, 108, 119, 97, 121, 115]) (.held (fnV (askF 2)))).put (wQ [108, 101, 97, 115, 116]) (.held (fnV (askF 3)))).put (wQ [97, 103, 97, 105, 110, 115, 116]) (.held (fnV (askF 4)))).put (wQ [99, 104, 97, 105, 110, 115]) (.held (fnV (askF 5)))).put (wQ [108, 101, 116, 116, 101, 114, 115]) (.held (fnV (askF 6)))).put (wQ [109, 111, 118, 101, 115]) (.held (fnV (askF 7)))).put (wQ [114, 111, 119]) (.held (fnV (askF 8))))
theorem ques_in {l : List UInt8} {q : Nat} (h : askW[q]? = some l) : quesD.atKey (wQ l) (.held .nilFunc) = .held (fnV (askF q)) ∧ Maps.has quesD (wQ l) = true := by
  have hq : q < 9 := (List.getElem?_eq_some_iff.1 h).1
  match q, hq, h with
  | 0, _, h => cases h; exact ⟨rfl, rfl⟩
  | 1, _, h => cases h; exact ⟨rfl, rfl⟩
  | 2, _, h => cases h; exact ⟨rfl, rfl⟩
  | 3, _, h => cases h; exact ⟨rfl, rfl⟩
  | 4, _, h => cases h; exact ⟨rfl, rfl⟩
  | 5, _, h => cases h; exact ⟨rfl, rfl⟩
  | 6, _, h => cases h; exact ⟨rfl, rfl⟩
  | 7, _, h => cases h; exact ⟨rfl, rfl⟩
  | 8, _, h => cases h; exact ⟨rfl, rfl⟩
theorem wQ_ne {l m : List UInt8} (h : l ≠ m) : wQ l ≠ wQ m := fun e => h (by unfold wQ at e; injection e)
theorem ques_out {l : List UInt8} (h : l ∉ askW) : quesD.atKey (wQ l) (.held .nilFunc) = .held .nilFunc ∧ Maps.has quesD (wQ l) = false := by
  have f : ∀ m ∈ askW, wQ l ≠ wQ m := fun m hm => wQ_ne fun e => h (e ▸ hm)
  unfold quesD
  refine ⟨?_, ?_⟩
  · rw [atKey_put_other (f [114, 111, 119] (by decide)), atKey_put_other (f [109, 111, 118, 101, 115] (by decide)), atKey_put_other (f [108, 101, 116, 116, 101, 114, 115] (by decide)), atKey_put_other (f [99, 104, 97, 105, 110, 115] (by decide)), atKey_put_other (f [97, 103, 97, 105, 110, 115, 116] (by decide)), atKey_put_other (f [108, 101, 97, 115, 116] (by decide)), atKey_put_other (f [97, 108, 119, 97, 121, 115] (by decide)), atKey_put_other (f [116, 101, 120, 116] (by decide)), atKey_put_other (f [115, 116, 101, 112, 115] (by decide))]
    rfl
  · rw [has_put_other (f [114, 111, 119] (by decide)), has_put_other (f [109, 111, 118, 101, 115] (by decide)), has_put_other (f [108, 101, 116, 116, 101, 114, 115] (by decide)), has_put_other (f [99, 104, 97, 105, 110, 115] (by decide)), has_put_other (f [97, 103, 97, 105, 110, 115, 116] (by decide)), has_put_other (f [108, 101, 97, 115, 116] (by decide)), has_put_other (f [97, 108, 119, 97, 121, 115] (by decide)), has_put_other (f [116, 101, 120, 116] (by decide)), has_put_other (f [115, 116, 101, 112, 115] (by decide))]
    rfl
def QuesPost (w : World) (e : Ending) (w' : World) : Prop :=
  e = .returned (.map (some w.heap.size)) ∧ w'.ownsMap Tryz.prog 9 anyElem w.heap.size 9 quesD ∧ w.grownBy w' none

set_option maxRecDepth 8000 in
set_option maxHeartbeats 2000000 in
theorem ques_any (w : World) : Calls Tryz.prog 98 #[] w (QuesPost w) := by
  have hmm : ∀ w, (Instr.makeMap 125 none).run Tryz.prog w = .ok (.map (some w.heap.size)) (w.alloc (.map #[] 0)) := fun _ => rfl
  have g0 := World.grownBy_alloc w (.map #[] 0) none
  have o0 : (w.alloc (.map #[] 0)).ownsMap Tryz.prog 9 anyElem w.heap.size 0 (DataW.map []) := World.ownsMap_made _ _ _ _
  go_enter Tryz.func98, Tryz.ntmps98
  go_wp2_with (first
    | (refine insert_own _ rfl _ _ _ 125 rfl 9 123 keyedS Tryz.underlying125 anyElem w.heap.size 0 _ rfl o0 (by unfold maxLen; omega) (.string ⟨#[115, 116, 101, 112, 115]⟩) (fnV 122) (wQ [115, 116, 101, 112, 115]) rfl rfl (wQ_of [115, 116, 101, 112, 115] (by decide)) (.held (fnV (askF 0))) [] rfl ?_; intro w1 o1 h1; have g1 := grownBy_own g0 h1)
    | (refine insert_own _ rfl _ _ _ 125 rfl 9 123 keyedS Tryz.underlying125 anyElem w.heap.size 1 _ rfl o1 (by unfold maxLen; omega) (.string ⟨#[116, 101, 120, 116]⟩) (fnV 123) (wQ [116, 101, 120, 116]) rfl rfl (wQ_of [116, 101, 120, 116] (by decide)) (.held (fnV (askF 1))) [] rfl ?_; intro w2 o2 h2; have g2 := grownBy_own g1 h2)
    | (refine insert_own _ rfl _ _ _ 125 rfl 9 123 keyedS Tryz.underlying125 anyElem w.heap.size 2 _ rfl o2 (by unfold maxLen; omega) (.string ⟨#[97, 108, 119, 97, 121, 115]⟩) (fnV 124) (wQ [97, 108, 119, 97, 121, 115]) rfl rfl (wQ_of [97, 108, 119, 97, 121, 115] (by decide)) (.held (fnV (askF 2))) [] rfl ?_; intro w3 o3 h3; have g3 := grownBy_own g2 h3)
    | (refine insert_own _ rfl _ _ _ 125 rfl 9 123 keyedS Tryz.underlying125 anyElem w.heap.size 3 _ rfl o3 (by unfold maxLen; omega) (.string ⟨#[108, 101, 97, 115, 116]⟩) (fnV 125) (wQ [108, 101, 97, 115, 116]) rfl rfl (wQ_of [108, 101, 97, 115, 116] (by decide)) (.held (fnV (askF 3))) [] rfl ?_; intro w4 o4 h4; have g4 := grownBy_own g3 h4)
    | (refine insert_own _ rfl _ _ _ 125 rfl 9 123 keyedS Tryz.underlying125 anyElem w.heap.size 4 _ rfl o4 (by unfold maxLen; omega) (.string ⟨#[97, 103, 97, 105, 110, 115, 116]⟩) (fnV 126) (wQ [97, 103, 97, 105, 110, 115, 116]) rfl rfl (wQ_of [97, 103, 97, 105, 110, 115, 116] (by decide)) (.held (fnV (askF 4))) [] rfl ?_; intro w5 o5 h5; have g5 := grownBy_own g4 h5)
    | (refine insert_own _ rfl _ _ _ 125 rfl 9 123 keyedS Tryz.underlying125 anyElem w.heap.size 5 _ rfl o5 (by unfold maxLen; omega) (.string ⟨#[99, 104, 97, 105, 110, 115]⟩) (fnV 127) (wQ [99, 104, 97, 105, 110, 115]) rfl rfl (wQ_of [99, 104, 97, 105, 110, 115] (by decide)) (.held (fnV (askF 5))) [] rfl ?_; intro w6 o6 h6; have g6 := grownBy_own g5 h6)
    | (refine insert_own _ rfl _ _ _ 125 rfl 9 123 keyedS Tryz.underlying125 anyElem w.heap.size 6 _ rfl o6 (by unfold maxLen; omega) (.string ⟨#[108, 101, 116, 116, 101, 114, 115]⟩) (fnV 128) (wQ [108, 101, 116, 116, 101, 114, 115]) rfl rfl (wQ_of [108, 101, 116, 116, 101, 114, 115] (by decide)) (.held (fnV (askF 6))) [] rfl ?_; intro w7 o7 h7; have g7 := grownBy_own g6 h7)
    | (refine insert_own _ rfl _ _ _ 125 rfl 9 123 keyedS Tryz.underlying125 anyElem w.heap.size 7 _ rfl o7 (by unfold maxLen; omega) (.string ⟨#[109, 111, 118, 101, 115]⟩) (fnV 129) (wQ [109, 111, 118, 101, 115]) rfl rfl (wQ_of [109, 111, 118, 101, 115] (by decide)) (.held (fnV (askF 7))) [] rfl ?_; intro w8 o8 h8; have g8 := grownBy_own g7 h8)
    | (refine insert_own _ rfl _ _ _ 125 rfl 9 123 keyedS Tryz.underlying125 anyElem w.heap.size 8 _ rfl o8 (by unfold maxLen; omega) (.string ⟨#[114, 111, 119]⟩) (fnV 130) (wQ [114, 111, 119]) rfl rfl (wQ_of [114, 111, 119] (by decide)) (.held (fnV (askF 8))) [] rfl ?_; intro w9 o9 h9; have g9 := grownBy_own g8 h9))
  go_ret
  exact ⟨rfl, o9, g9⟩

end Go.Proofs.YtlnffpofbfigaaaGreatDoor

/-
  The kind of deed that has a word; a number's text read.
-/
namespace Go.Proofs.YtlnffpofbfigaaaGreatDoor
open Go.RowKit

theorem toL_bs (l : List UInt8) : (bs l).toList = l := by rw [ByteArray.toList_eq]; rfl
theorem bs_ne {l m : List UInt8} (h : m ≠ l) : (m == (bs l).toList) = false := by rw [toL_bs]; exact beq_false_of_ne h
theorem kind_at {l : List UInt8} {k : Nat} (hk : k < 7) (hall : ∀ j, j < k → wordsL.getD j [] ≠ l) (h : wordsL.getD k [] = l) : Ending.returned (.int .i64 (k : Int)) = .returned (.int .i64 (kindI l)) := by rw [kindI_at hall hk h]
theorem bs_inj {l m : List UInt8} (h : bs l = bs m) : l = m := by have := congrArg bl h; rwa [bl_bs, bl_bs] at this
theorem word_at {k : Nat} (hk : k < 7) : ∀ w, (Instr.index 81 (.agg #[.string ⟨#[99, 104, 97, 105, 110]⟩, .string ⟨#[115, 97, 121]⟩, .string ⟨#[110, 111, 116]⟩, .string ⟨#[116, 105, 109, 101, 115]⟩, .string ⟨#[105, 102]⟩, .string ⟨#[98, 97, 115, 105, 99]⟩, .string ⟨#[98, 97, 99, 107]⟩]) (.int .i64 (k : Int))).run Tryz.prog w = .ok (.string (bs (wordsL.getD k []))) w := by
  intro w
  rcases (show k = 0 ∨ k = 1 ∨ k = 2 ∨ k = 3 ∨ k = 4 ∨ k = 5 ∨ k = 6 by omega) with rfl | rfl | rfl | rfl | rfl | rfl | rfl
  all_goals kernel_rfl
def KdRel (l : List UInt8) (w : World) (i : Value) (wr : World) : Prop := ∃ k : Nat, k ≤ 7 ∧ i = .int .i64 k ∧ (∀ j, j < k → wordsL.getD j [] ≠ l) ∧ w = wr
set_option maxRecDepth 8000 in
set_option maxHeartbeats 4000000 in
theorem kind_any (l : List UInt8) (w : World) (hT : WdAt w) :
    Calls Tryz.prog 92 #[.string (bs l)] w fun e w' => e = .returned (.int .i64 (kindI l)) ∧ w = w' := by
  obtain ⟨c0, c1, c2, c3, c4, c5, c6⟩ := hT.facts
  go_enter Tryz.func92, Tryz.ntmps92
  go_wp2
  clear c0 c1 c2 c3 c4 c5 c6 hT
  go_loopw [6] (fun i wr => KdRel l w i wr) (fun i _ => 7 - (intOf i).toNat)
  case atStart => exact ⟨0, by omega, rfl, fun j hj => absurd hj (by omega), rfl⟩
  case round =>
    obtain ⟨k, hk, rfl, hall, rfl⟩ := hrel
    by_cases h7 : k = 7
    · subst h7
      go_wp2
      go_ret
      exact ⟨by rw [kindI_no hall]; rfl, rfl⟩
    · have hlt : (k : Int) < 7 := by omega
      have hi := word_at (k := k) (by omega)
      by_cases hl : wordsL.getD k [] = l
      · have HZ := Lib.hid (kind_at (by omega) hall hl)
        rw [hl] at hi
        clear hall hl h7
        go_wp2
        go_ret
        exact ⟨Eq.trans rfl HZ.out, rfl⟩
      · have hm : ∀ j, j < k + 1 → wordsL.getD j [] ≠ l := fun j hj => by
          by_cases e : j = k
          · rw [e]; exact hl
          · exact hall j (by omega)
        have hn := bs_ne hl
        rw [← toL_bs (wordsL.getD k [])] at hn
        have HM := Lib.hid hm
        clear hall hl hm h7
        generalize bs (wordsL.getD k []) = T at *
        go_wp2
        go_roundw
        case rel => exact ⟨k + 1, by omega, by go_num, HM.out, rfl⟩
        case measure => simp [intOf]; omega

/-- A number's text read. -/
def NumC (l : List UInt8) (w : World) : Prop := Calls Tryz.prog 93 #[.string (bs l)] w fun e w' => e = .returned (.int .i64 (numI l)) ∧ w.grownBy w' none
set_option maxHeartbeats 1600000 in
theorem numin_no (l : List UInt8) (hl : l.length ≤ L48) (h : ∀ v, Lib.atoiAll l ≠ .ok v) (w : World) (hE : ErAt w) : NumC l w := by
  have ca := atoi_no l hl h w hE
  have hx : numI l = -1 := by
    unfold numI
    cases e : Lib.atoiAll l with
    | ok v => exact absurd e (h v)
    | «syntax» => rfl
    | range => rfl
  unfold NumC
  rw [hx]
  clear hx hE h
  go_enter Tryz.func93, Tryz.ntmps93
  go_wp2_with (first | (go_at_call 119; refine ca.mono ?_; rintro e w' ⟨⟨n, N, rfl⟩, hg⟩))
  go_ret
  exact ⟨rfl, hg⟩
set_option maxHeartbeats 1600000 in
theorem numin_ok (l : List UInt8) (hl : l.length ≤ L48) (v : Int) (h : Lib.atoiAll l = .ok v) (w : World) : NumC l w := by
  have ca := atoi_ok l hl v h w
  have hx : numI l = if 0 ≤ v ∧ v ≤ 99 ∧ Lib.itoa v = l then v else -1 := by unfold numI; rw [h]
  unfold NumC
  rw [hx]
  clear hx h
  by_cases h0 : 0 ≤ v
  · by_cases h9 : v ≤ 99
    · obtain ⟨k, rfl⟩ := Int.eq_ofNat_of_zero_le h0
      have ci := itoa2_any k (by omega)
      rw [itoa_dec (by omega)]
      have n0 : ¬ ((k : Int) < 0) := by omega
      have n9 : ¬ (99 < (k : Int)) := by omega
      by_cases he : decL k = l
      · rw [if_pos ⟨h0, h9, he⟩]
        subst he
        go_enter Tryz.func93, Tryz.ntmps93
        go_wp2_with (first | (go_at_call 119; refine ca.mono ?_; rintro e w' ⟨rfl, hg⟩) | (go_at_call 54; refine (ci _).mono ?_; rintro e w' ⟨rfl, rfl⟩))
        go_ret
        exact ⟨rfl, hg⟩
      · rw [if_neg fun hh => he hh.2.2]
        have hn := bs_ne he
        rw [← toL_bs (decL k)] at hn
        go_enter Tryz.func93, Tryz.ntmps93
        go_wp2_with (first | (go_at_call 119; refine ca.mono ?_; rintro e w' ⟨rfl, hg⟩) | (go_at_call 54; refine (ci _).mono ?_; rintro e w' ⟨rfl, rfl⟩))
        go_ret
        exact ⟨rfl, hg⟩
    · rw [if_neg fun hh => h9 hh.2.1]
      have n0 : ¬ (v < 0) := by omega
      have n9 : 99 < v := by omega
      go_enter Tryz.func93, Tryz.ntmps93
      go_wp2_with (first | (go_at_call 119; refine ca.mono ?_; rintro e w' ⟨rfl, hg⟩))
      all_goals go_ret
      all_goals exact ⟨rfl, hg⟩
  · rw [if_neg fun hh => h0 hh.1]
    have n0 : v < 0 := by omega
    go_enter Tryz.func93, Tryz.ntmps93
    go_wp2_with (first | (go_at_call 119; refine ca.mono ?_; rintro e w' ⟨rfl, hg⟩))
    all_goals go_ret
    all_goals exact ⟨rfl, hg⟩
theorem num_any (l : List UInt8) (hl : l.length ≤ L48) (w : World) (hE : ErAt w) : NumC l w := by
  by_cases h : ∃ v, Lib.atoiAll l = .ok v
  · obtain ⟨v, h⟩ := h; exact numin_ok l hl v h w
  · exact numin_no l hl (fun v e => h ⟨v, e⟩) w hE

end Go.Proofs.YtlnffpofbfigaaaGreatDoor

/-
  A text parted at a byte, as the model parts it.
-/
namespace Go.Proofs.YtlnffpofbfigaaaGreatDoor
open Go.RowKit

theorem infoTx : (Tryz.prog.info? 9).map (fun i => (i.zero, i.size, i.bytes)) = some (some (.string ⟨#[]⟩), 1, 16) := by kernel_rfl
theorem ext_bs (l : List UInt8) (f k : Nat) : (bs l).extract f k = bs ((l.drop f).take (k - f)) := by
  refine bl_inj ?_
  show ((bs l).extract f k).data.toList = _
  rw [bl_bs, ByteArray.data_extract, Array.toList_extract]
  show List.take (k - f) (List.drop f l) = _
  rfl
theorem txC_snoc (L : List (List UInt8)) (c : List UInt8) : (L.map fun x => Value.string (bs x)) ++ [Value.string (bs c)] = (L ++ [c]).map fun x => Value.string (bs x) := by simp
theorem onetx_news (w : World) (s : ByteArray) : ∀ j u, ([Value.string s] : List Value)[j]? = some u → (w.alloc (.cells #[.string s] 9)).cell? ((⟨w.heap.size, 0, none⟩ : Addr).add j) = some u := by
  intro j u hj
  match j, hj with
  | 0, hj => simp at hj; subst hj; simp [Addr.add]
theorem onetx_cell (s : ByteArray) : ∀ u ∈ ([Value.string s] : List Value), u.oneCell' = true := by intro u hu; simp at hu; subst hu; rfl
/-- What was parted so far, and what is left. -/
def CtRel (p : UInt8) (l : List UInt8) (w : World) (v fv kv : Value) (wr : World) : Prop :=
  ∃ (L : List (List UInt8)) (f k : Nat), f ≤ k ∧ k ≤ l.length ∧ fv = .int .i64 f ∧ kv = .int .i64 k ∧ L.length ≤ k ∧ cutL p l = L ++ cutG p ((l.drop f).take (k - f)) (l.drop k) ∧ wr.ownsRow w.heap.size 9 1 v L.length (L.map fun x => Value.string (bs x)) ∧ w.grownBy wr none

theorem grTx_row {a b c : World} {base : Nat} {v : Value} {n : Nat} {xs : List Value} {e : TypeId} (h : a.grownBy b none) (ho : b.ownsRow base e 1 v n xs) (hb : a.heap.size ≤ base) (k : b.grownBy c v.ownBlock) : a.grownBy c none :=
  ⟨k.os.trans h.os, k.tape.trans h.tape, k.output.trans h.output, Nat.le_trans h.size k.size, fun i hi hne => by
    refine (k.block i (Nat.lt_of_lt_of_le hi h.size) fun e => ?_).trans (h.block i hi hne)
    have := World.ownsRow.lt ho i e.symm
    omega⟩
/-- The texts as they lie. -/
def TxsAt (w : World) (a : Option Addr) (L : List (List UInt8)) : Prop := ∃ g, a = some ⟨g, 0, none⟩ ∧ ∀ i, i < L.length → w.cell? ⟨g, i, none⟩ = some (.string (bs (L.getD i [])))
theorem TxsAt.grown {w w' : World} {a : Option Addr} {L : List (List UInt8)} (h : TxsAt w a L) (hg : w.grownBy w' none) : TxsAt w' a L := by
  obtain ⟨g, ha, hc⟩ := h
  exact ⟨g, ha, fun i hi => (World.cell?_of_block (w := w) (hg.block _ (World.block_lt_of_cell? w _ (hc i hi)) (by simp))).trans (hc i hi)⟩
theorem own_txs {w : World} {base : Nat} {v : Value} {L : List (List UInt8)} (h : w.ownsRow base 9 1 v L.length (L.map fun x => Value.string (bs x))) (hL : 1 ≤ L.length) : ∃ a cap, v = .slice a L.length cap ∧ TxsAt w a L := by
  rcases h.2 with ⟨rfl, h0⟩ | ⟨g, cap, cur, rfl, hb, _, hlc, hcc, _⟩
  · omega
  · refine ⟨some ⟨g, 0, none⟩, cap, rfl, g, rfl, fun i hi => ?_⟩
    have := World.ownsRow.cellAt h i (by omega)
    rw [this]
    simp [List.getD_eq_getElem?_getD, hi]
def ScPost (p : UInt8) (l : List UInt8) (w : World) (e : Ending) (w' : World) : Prop := ∃ a cap, e = .returned (.slice a (cutL p l).length cap) ∧ TxsAt w' a (cutL p l) ∧ w.grownBy w' none

set_option maxRecDepth 100000 in
set_option maxHeartbeats 4000000 in
theorem scut_any (p : UInt8) (l : List UInt8) (hl : l.length ≤ 2097152) (w : World) :
    Calls Tryz.prog 73 #[.string (bs l), .int .u8 (p.toNat : Int)] w (ScPost p l w) := by
  have hz := bs_size l
  obtain ⟨i0, hi, hz0, hz1, hz2⟩ := info_parts infoTx
  have o1 := World.ownsRow_lit (e := 9) (size := 1) w #[] 0 (Nat.le_refl _) (by unfold maxLen; omega) rfl
  have g1 := World.grownBy_alloc w (.cells #[] 9) none
  go_enter Tryz.func73, Tryz.ntmps73
  go_wp2
  go_loopw [5, 6, 7] (fun v fv kv wr => CtRel p l w v fv kv wr) (fun _ _ kv _ => l.length - (intOf kv).toNat)
  case atStart => exact ⟨[], 0, 0, by omega, by omega, rfl, rfl, by simp, by simp [cutL], o1, g1⟩
  case round =>
    obtain ⟨L, f, k, hfk, hkl, rfl, rfl, hLk, hcut, hown, hgr⟩ := hrel
    have e9 := ext_bs l f k
    have hA := World.ownsRow.alloc hown (.cells #[.string ((bs l).extract f k)] 9)
    by_cases hlt : k < l.length
    · obtain ⟨c, r, hd⟩ : ∃ c r, l.drop k = c :: r := by
        cases hx : l.drop k with
        | nil => have := congrArg List.length hx; simp at this; omega
        | cons c r => exact ⟨c, r, rfl⟩
      have hidx := idx_run (s := bs l) (p := k) hd
      have hd1 : l.drop (k + 1) = r := by rw [← List.drop_drop, hd]; rfl
      have w1 : wrap64 ((k : Int) + 1) = (k : Int) + 1 := by unfold wrap64; omega
      by_cases hc : c = p
      · subst hc
        rw [hd, cutG_hit] at hcut
        have hcut2 : cutL c l = (L ++ [(l.drop f).take (k - f)]) ++ cutG c ((l.drop (k + 1)).take (k + 1 - (k + 1))) (l.drop (k + 1)) := by rw [hcut, hd1]; simp
        have HC := Lib.hid hcut2
        have HG := Lib.hid hgr
        have E9 := Lib.hid e9
        clear hcut hcut2 hd hd1 e9 hown hgr
        go_wp2_with (at_builtin; refine wpList_append_own _ rfl _ _ 49 rfl w.heap.size 9 i0 (.string ⟨#[]⟩) 1 16 Tryz.underlying49 hi hz0 hz1 hz2 rfl (by decide) _ _ _ rfl hA ⟨wr.heap.size, 0, none⟩ 1 1 [.string ((bs l).extract f k)] rfl rfl (onetx_news _ _) (onetx_cell _) ?c3 ?c4 ?c5 ?_)
        case c3 => unfold maxLen; omega
        case c4 => omega
        case c5 => have := HG.out.size; simp; omega
        intro v' w3 hown' hgrow _
        have G3 := Lib.hid (grTx_row (grownBy_trans HG.out (World.grownBy_alloc wr (.cells #[.string ((bs l).extract f k)] 9) none)) hA (Nat.le_refl _) hgrow)
        rw [E9.out, txC_snoc] at hown'
        rw [show L.length + 1 = (L ++ [(l.drop f).take (k - f)]).length by simp] at hown'
        have O3 := Lib.hid hown'
        clear hown' hgrow hA hidx
        go_wp2
        go_roundw
        case rel => exact ⟨L ++ [(l.drop f).take (k - f)], k + 1, k + 1, by omega, by omega, by go_num, by go_num, by simp; omega, HC.out, O3.out, G3.out⟩
        case measure => simp [intOf]; omega
      · have hne : ((c.toNat : Int) == (p.toNat : Int)) = false := beq_false_of_ne fun e => hc (UInt8.toNat_inj.1 (by exact_mod_cast e))
        have hne2 : ¬ (c.toNat = p.toNat) := fun e => hc (UInt8.toNat_inj.1 e)
        rw [hd, cutG_miss _ _ hc] at hcut
        have hcut2 : cutL p l = L ++ cutG p ((l.drop f).take (k + 1 - f)) (l.drop (k + 1)) := by
          rw [hcut, hd1, show k + 1 - f = (k - f) + 1 by omega, List.take_add_one]
          congr 2
          rw [List.getElem?_drop, show f + (k - f) = k by omega]
          have : l[k]? = some c := by have := congrArg (fun x => x[0]?) hd; simpa using this
          rw [this]; rfl
        have HC := Lib.hid hcut2
        have HG := Lib.hid hgr
        have HO := Lib.hid hown
        clear hcut hcut2 hd hd1 e9 hown hgr hA
        go_wp2
        go_roundw
        case rel => exact ⟨L, f, k + 1, by omega, by omega, rfl, by go_num, by omega, HC.out, HO.out, HG.out⟩
        case measure => simp [intOf]; omega
    · obtain rfl : k = l.length := by omega
      rw [List.drop_length, cutG_nil] at hcut
      have HC := Lib.hid hcut
      have HG := Lib.hid hgr
      have E9 := Lib.hid e9
      clear hcut e9 hown hgr
      go_wp2_with (at_builtin; refine wpList_append_own _ rfl _ _ 49 rfl w.heap.size 9 i0 (.string ⟨#[]⟩) 1 16 Tryz.underlying49 hi hz0 hz1 hz2 rfl (by decide) _ _ _ rfl hA ⟨wr.heap.size, 0, none⟩ 1 1 [.string ((bs l).extract f l.length)] rfl rfl (onetx_news _ _) (onetx_cell _) ?d3 ?d4 ?d5 ?_)
      case d3 => unfold maxLen; omega
      case d4 => omega
      case d5 => have := HG.out.size; simp; omega
      intro v' w3 hown' hgrow _
      have G3 := Lib.hid (grTx_row (grownBy_trans HG.out (World.grownBy_alloc wr (.cells #[.string ((bs l).extract f l.length)] 9) none)) hA (Nat.le_refl _) hgrow)
      rw [E9.out, txC_snoc, ← HC.out, show L.length + 1 = (cutL p l).length by rw [HC.out]; simp] at hown'
      obtain ⟨a, cap, rfl, hS⟩ := own_txs hown' (by rw [HC.out]; simp)
      clear hown' hgrow hA
      go_wp2
      go_ret
      exact ⟨a, cap, rfl, hS, G3.out⟩

end Go.Proofs.YtlnffpofbfigaaaGreatDoor

/-
  A text split at its spaces: the library's strings.Split, by words.
-/
namespace Go.Proofs.YtlnffpofbfigaaaGreatDoor
open Go.RowKit

set_option maxRecDepth 8000 in
theorem strIdx_any (l : List UInt8) (c : UInt8) (w : World) :
    Calls Tryz.prog 192 #[.string (bs l), .string ⟨#[c]⟩] w fun e w' => e = .returned (.int .i64 (Lib.indexB (bs l) ⟨#[c]⟩)) ∧ w' = w := by
  have ci := index1_any l c
  generalize Lib.indexB (bs l) ⟨#[c]⟩ = i at *
  generalize bs l = s at *
  go_enter Tryz.func192, Tryz.ntmps192
  go_wp2_with (first | (go_at_call 118; (with_reducible refine (ci _).mono ?_); rintro e w2 ⟨rfl, rfl⟩))
  go_ret
  exact ⟨rfl, rfl⟩

theorem split_cut : ∀ (n : Nat) (l : List UInt8), l.length ≤ n → Lib.splitB ⟨#[32]⟩ 0 (l.count 32) (bs l) = (cutL 32 l).map bs ∧ (cutL 32 l).length = l.count 32 + 1
  | n, l, h => by
    rcases cut_ways 32 l with hm | ⟨t, r, rfl, ht⟩
    · have hc : l.count 32 = 0 := List.count_eq_zero.2 fun k => hm 32 k rfl
      rw [hc, cutL_one hm]
      exact ⟨Lib.splitB_zero _ _ _, rfl⟩
    · have hc : (t ++ 32 :: r).count 32 = r.count 32 + 1 := by
        rw [List.count_append, List.count_cons_self, List.count_eq_zero.2 fun k => ht 32 k rfl]; omega
      have hi : Lib.indexB (bs (t ++ 32 :: r)) ⟨#[32]⟩ = (t.length : Int) := index_hit r ht
      match n, h with
      | 0, h => simp at h
      | n + 1, h =>
        obtain ⟨i1, i2⟩ := split_cut n r (by simp at h; omega)
        rw [hc, Lib.splitB_hit _ _ _ _ t.length hi, cutL_more r ht]
        refine ⟨?_, by rw [List.length_cons, i2]⟩
        rw [List.map_cons, ext_bs, ext_bs, bs_size]
        have e1 : ((t ++ 32 :: r).drop 0).take (t.length + 0 - 0) = t := by simp
        have e2 : ((t ++ 32 :: r).drop (t.length + (⟨#[32]⟩ : ByteArray).size)).take ((t ++ 32 :: r).length - (t.length + (⟨#[32]⟩ : ByteArray).size)) = r := by
          have : (⟨#[32]⟩ : ByteArray).size = 1 := rfl
          rw [this, ← List.drop_drop, List.drop_left]
          exact List.take_of_length_le (by simp only [List.drop_succ_cons, List.drop_zero, List.length_append, List.length_cons]; omega)
        rw [e1, e2, i1]

def WordsAt (w : World) (b : Nat) (ws : List (List UInt8)) : Prop := CellsAt w b (ws.map fun t => Value.string (bs t)).toArray 9
theorem WordsAt.cell {w : World} {b : Nat} {ws : List (List UInt8)} (h : WordsAt w b ws) {i : Nat} {t : List UInt8} (hi : ws[i]? = some t) : w.cell? ⟨b, i, none⟩ = some (.string (bs t)) := CellsAt.cell h (by simp [hi])

set_option maxRecDepth 8000 in
set_option maxHeartbeats 2000000 in
theorem split_any (l : List UInt8) (hl : l.length ≤ 2097152) (w : World) :
    Calls Tryz.prog 131 #[.string (bs l), .string ⟨#[32]⟩] w fun e w' => e = .returned (.slice (some ⟨w.heap.size, 0, none⟩) (cutL 32 l).length (cutL 32 l).length) ∧ WordsAt w' w.heap.size (cutL 32 l) ∧ w.grownBy w' none := by
  obtain ⟨s1, s2⟩ := split_cut _ l (Nat.le_refl _)
  have hz := bs_size l
  have hcb : Lib.countB (bs l) ⟨#[32]⟩ = l.count 32 := Lib.count_one 32 l
  have c := Any.strings_genSplit_core Tryz.lays221 (by kernel_rfl) (bs l) ⟨#[32]⟩ 0 (-1) (l.count 32 + 1) w (by omega) (by decide) (by decide)
    (fun x c hx => by
      have := strIdx_any (bl x) 32 (w.alloc (.cells c (Tryz.lays221_ren.t 9)))
      rw [bs_bl] at this
      exact this)
    ((Any.strings_Count_one Tryz.lays138 (bs l) 32 w).mono fun e w' h => by
      refine ⟨?_, h.2⟩
      rw [h.1, hcb]
      rfl)
    (by decide) (by decide) (by
      rw [if_pos (by decide), hcb]
      have := List.count_le_length (a := (32 : UInt8)) (l := l)
      omega)
  rw [Nat.add_sub_cancel, s1] at c
  have hlen : ((cutL 32 l).map bs).length = l.count 32 + 1 := by rw [List.length_map, s2]
  have e2 : Lib.cellsOf ((cutL 32 l).map bs) (l.count 32 + 1) = (((cutL 32 l).map bs).map Value.string).toArray := by rw [← hlen]; exact Lib.cellsOf_full _
  rw [e2, hlen] at c
  rw [s2]
  have hcells : ((cutL 32 l).map bs).map Value.string = (cutL 32 l).map fun t => Value.string (bs t) := by rw [List.map_map]; rfl
  rw [hcells] at c
  unfold WordsAt
  generalize ((cutL 32 l).map fun t => Value.string (bs t)).toArray = C at *
  generalize l.count 32 + 1 = k at *
  clear s1 s2 hz hcb hlen e2 hcells hl
  generalize bs l = s at *
  go_enter Tryz.func131, Tryz.ntmps131
  go_wp2_with (first | (go_at_call 158; (refine Calls.mono c ?_); rintro e w2 ⟨rfl, hw⟩))
  go_ret
  exact ⟨rfl, CellsAt.new w C _, World.grownBy_alloc _ _ none⟩

end Go.Proofs.YtlnffpofbfigaaaGreatDoor

/-
  Questions: impl.truthOf and what it hands back; impl.premisesTrue and what it hands back: the premises' questions in a slice that a function holds. No condition.
-/
namespace Go.Proofs.YtlnffpofbfigaaaGreatDoor
open Go.RowKit Go.Shelf

/-- A setting's value at a place. -/
def atV (N x : Nat) : Value := .agg #[.int .i64 N, .int .i64 (tA N x), .int .i64 (tB N x), .int .i64 (tC N x)]
def qV (B : Nat) : Value := .func (.func 196) #[] #[.pointer (some ⟨B, 0, none⟩)]
def pV (B : Nat) : Value := .func (.func 195) #[] #[.pointer (some ⟨B, 0, none⟩)]

theorem truth_any (t : Tr) (w : World) :
    Calls Tryz.prog 164 #[.iface (nodeT t) (nodeP t)] w fun e w' => e = .returned (.func (.func 196) #[] #[.pointer (some ⟨w.heap.size, 0, none⟩)]) ∧ w' = w.alloc (.cells #[.iface (nodeT t) (nodeP t)] 131) := by
  go_enter Tryz.func164, Tryz.ntmps164
  go_wp2_with fail
  go_ret
  exact ⟨rfl, rfl⟩

set_option maxRecDepth 100000 in
set_option maxHeartbeats 2000000 in
theorem tru1_any (N : Nat) (hN : 1 ≤ N ∧ N ≤ 6) (x : Nat) (t : Tr) (B : Nat) (w : World) (hB : w.cell? ⟨B, 0, none⟩ = some (.iface (nodeT t) (nodeP t))) :
    Calls Tryz.prog 196 #[.agg #[.int .i64 N, .int .i64 (tA N x), .int .i64 (tB N x), .int .i64 (tC N x)], .pointer (some ⟨B, 0, none⟩)] w fun e w' => e = .returned (.bool (truK N t x)) ∧ w.grownBy w' none := by
  have cv : ∀ w : World, Calls Tryz.prog 160 #[.agg #[.int .i64 N, .int .i64 (tA N x), .int .i64 (tB N x), .int .i64 (tC N x)], .iface (nodeT t) (nodeP t)] w fun e w' => e = .returned (.int .i64 (atK N t x)) ∧ w.grownBy w' none := vt_all (tri_ok hN x) t
  have hq := BlkAt.new w #[.int .i64 N, .int .i64 (tA N x), .int .i64 (tB N x), .int .i64 (tC N x)] 164
  have g0 : w.grownBy (w.alloc (.cells #[.int .i64 N, .int .i64 (tA N x), .int .i64 (tB N x), .int .i64 (tC N x)] 164)) none := World.grownBy_alloc _ _ none
  have t0 := cell_grown hB g0
  go_enter Tryz.func196, Tryz.ntmps196
  go_wp2_with fail
  obtain ⟨wb, hwb⟩ : ∃ wb : World, wb = w.alloc (.cells #[.int .i64 N, .int .i64 (tA N x), .int .i64 (tB N x), .int .i64 (tC N x)] 164) := ⟨_, rfl⟩
  rw [← hwb] at hq g0 t0 ⊢
  have hb : wb.drew.cell? ⟨w.heap.size, 0, none⟩ = some (.int .i64 N) ∧ wb.drew.cell? ⟨w.heap.size, 1, none⟩ = some (.int .i64 (tA N x)) ∧ wb.drew.cell? ⟨w.heap.size, 2, none⟩ = some (.int .i64 (tB N x)) ∧ wb.drew.cell? ⟨w.heap.size, 3, none⟩ = some (.int .i64 (tC N x)) ∧ wb.drew.cell? ⟨B, 0, none⟩ = some (.iface (nodeT t) (nodeP t)) ∧ w.grownBy wb.drew none :=
    ⟨hq.cell rfl, hq.cell rfl, hq.cell rfl, hq.cell rfl, t0, grownBy_drew g0⟩
  clear hwb hq g0 t0 hB
  go_region_held3 (fun w' => w'.cell? ⟨w.heap.size, 0, none⟩ = some (.int .i64 N) ∧ w'.cell? ⟨w.heap.size, 1, none⟩ = some (.int .i64 (tA N x)) ∧ w'.cell? ⟨w.heap.size, 2, none⟩ = some (.int .i64 (tB N x)) ∧ w'.cell? ⟨w.heap.size, 3, none⟩ = some (.int .i64 (tC N x)) ∧ w'.cell? ⟨B, 0, none⟩ = some (.iface (nodeT t) (nodeP t)) ∧ w.grownBy w' none)
    (first | exact hb | exact held5 (by assumption) gx | assumption)
    (first | (go_at_call 160; refine (cv _).mono ?_; rintro e w2 ⟨rfl, gx⟩))
  all_goals
    go_wp2_with fail
    go_ret
    exact ⟨rfl, grownBy_trans hb.2.2.2.2.2 gx⟩

end Go.Proofs.YtlnffpofbfigaaaGreatDoor

/-
  The function that impl.premisesTrue hands back: it asks all premises' questions. The chain has 1 to 6 steps, the slice of questions lies as it was laid.
-/
namespace Go.Proofs.YtlnffpofbfigaaaGreatDoor
open Go.RowKit Go.Shelf

theorem blw_cell {w W : World} (hb : Below w.heap.size w W) {a : Addr} {x : Value} (h : w.cell? a = some x) : W.cell? a = some x :=
  (hb.cell (World.block_lt_of_cell? w _ h)).trans h

/-- Questions as they lie, one behind the other. -/
def QsAt (W : World) (a : Option Addr) (ts : List Tr) : Prop :=
  ts = [] ∨ ∃ b off, a = some ⟨b, off, none⟩ ∧ ∀ i t, ts[i]? = some t → ∃ Q, W.cell? ⟨b, off + i, none⟩ = some (.func (.func 196) #[] #[.pointer (some ⟨Q, 0, none⟩)]) ∧ W.cell? ⟨Q, 0, none⟩ = some (.iface (nodeT t) (nodeP t))
/-- What a function over premises has captured. -/
def PremAt (W : World) (B : Nat) (ts : List Tr) : Prop := ts.length ≤ 3 ∧ ∃ a cap, W.cell? ⟨B, 0, none⟩ = some (.slice a ts.length cap) ∧ QsAt W a ts
theorem PremAt.move {W W' : World} {B : Nat} {ts : List Tr} (h : PremAt W B ts) (hk : ∀ a x, W.cell? a = some x → W'.cell? a = some x) : PremAt W' B ts := by
  obtain ⟨h1, a, cap, h2, h3⟩ := h
  refine ⟨h1, a, cap, hk _ _ h2, ?_⟩
  rcases h3 with h3 | ⟨b, off, ha, h3⟩
  · exact .inl h3
  · refine .inr ⟨b, off, ha, fun i t ht => ?_⟩
    obtain ⟨Q, h4, h5⟩ := h3 i t ht
    exact ⟨Q, hk _ _ h4, hk _ _ h5⟩
theorem PremAt.grown {W W' : World} {B : Nat} {ts : List Tr} (h : PremAt W B ts) (hg : W.grownBy W' none) : PremAt W' B ts := h.move fun _ _ hc => cell_grown hc hg
theorem PremAt.below {W W' : World} {B : Nat} {ts : List Tr} (h : PremAt W B ts) (hb : Below W.heap.size W W') : PremAt W' B ts := h.move fun _ _ hc => blw_cell hb hc

theorem allK_no {N : Nat} {ts : List Tr} {x k : Nat} {t : Tr} (ht : ts[k]? = some t) (h : truK N t x = false) : allK N ts x = false := by
  unfold allK
  rw [List.all_eq_false]
  exact ⟨t, List.mem_of_getElem? ht, by rw [h]; simp⟩
theorem allK_yes {N : Nat} {ts : List Tr} {x : Nat} (h : ∀ j t, j < ts.length → ts[j]? = some t → truK N t x = true) : allK N ts x = true := by
  unfold allK
  rw [List.all_eq_true]
  intro t ht
  obtain ⟨j, hj⟩ := List.getElem?_of_mem ht
  exact h j t (List.getElem?_eq_some_iff.1 hj).1 hj

def AskRel (N x : Nat) (ts : List Tr) (wb : World) (i : Value) (wr : World) : Prop :=
  ∃ k : Nat, k ≤ ts.length ∧ i = .int .i64 k ∧ (∀ j t, j < k → ts[j]? = some t → truK N t x = true) ∧ wb.grownBy wr none

set_option maxRecDepth 100000 in
set_option maxHeartbeats 2000000 in
theorem prem1_any (N : Nat) (hN : 1 ≤ N ∧ N ≤ 6) (x : Nat) (ts : List Tr) (B : Nat) (w : World) (h : PremAt w B ts) :
    Calls Tryz.prog 195 #[.agg #[.int .i64 N, .int .i64 (tA N x), .int .i64 (tB N x), .int .i64 (tC N x)], .pointer (some ⟨B, 0, none⟩)] w fun e w' => e = .returned (.bool (allK N ts x)) ∧ w.grownBy w' none := by
  have hq := BlkAt.new w #[.int .i64 N, .int .i64 (tA N x), .int .i64 (tB N x), .int .i64 (tC N x)] 164
  have g0 : w.grownBy (w.alloc (.cells #[.int .i64 N, .int .i64 (tA N x), .int .i64 (tB N x), .int .i64 (tC N x)] 164)) none := World.grownBy_alloc _ _ none
  have h1 := h.grown g0
  obtain ⟨hlen, a, cap, hc, hQ⟩ := h1
  clear h
  go_enter Tryz.func195, Tryz.ntmps195
  go_wp2_with fail
  obtain ⟨wb, hwb⟩ : ∃ wb : World, wb = w.alloc (.cells #[.int .i64 N, .int .i64 (tA N x), .int .i64 (tB N x), .int .i64 (tC N x)] 164) := ⟨_, rfl⟩
  rw [← hwb] at hq g0 hc hQ ⊢
  clear hwb hc
  have HQ := Lib.hid hQ
  clear hQ
  go_loopw [8] (fun i wr => AskRel N x ts wb i wr) (fun i _ => ts.length - (intOf i).toNat)
  case atStart => exact ⟨0, by omega, rfl, fun j t hj => absurd hj (by omega), grownBy_refl _ _⟩
  case round =>
    obtain ⟨k, hk, rfl, hT, hgr⟩ := hrel
    have HT := Lib.hid hT
    clear hT
    by_cases hlt : k < ts.length
    · rcases HQ.out with h0 | ⟨b, off, rfl, hQs⟩
      · rw [h0] at hlt; simp at hlt
      obtain ⟨t, ht⟩ : ∃ t, ts[k]? = some t := ⟨_, List.getElem?_eq_getElem hlt⟩
      obtain ⟨Q, c1, c2⟩ := hQs k t ht
      have y0 := cell_grown (hq.cell (i := 0) rfl) hgr
      have y1 := cell_grown (hq.cell (i := 1) rfl) hgr
      have y2 := cell_grown (hq.cell (i := 2) rfl) hgr
      have y3 := cell_grown (hq.cell (i := 3) rfl) hgr
      have d1 := cell_grown c1 hgr
      have d2 := cell_grown c2 hgr
      have cq := tru1_any N hN x t Q wr d2
      have Ht := Lib.hid ht
      clear hQs c1 c2 ht d2
      cases hv : truK N t x
      · rw [hv] at cq
        have e := Lib.hid (allK_no Ht.out hv)
        clear hv
        go_wp2_with (go_at_call 196; refine cq.mono ?_; rintro e w2 ⟨rfl, gx⟩)
        go_ret
        exact ⟨by rw [e.out]; rfl, grownBy_trans g0 (grownBy_trans hgr gx)⟩
      · rw [hv] at cq
        have hn : Hid (∀ j u, j < k + 1 → ts[j]? = some u → truK N u x = true) := fun j u hj hu => by
          by_cases e : j = k
          · subst e; rw [Ht.out] at hu; cases hu; exact hv
          · exact HT.out j u (by omega) hu
        clear hv
        go_wp2_with (go_at_call 196; refine cq.mono ?_; rintro e w2 ⟨rfl, gx⟩)
        go_roundw
        case rel => exact ⟨k + 1, by omega, by go_num, hn.out, grownBy_trans hgr gx⟩
        case measure => simp [intOf]; omega
    · obtain rfl : k = ts.length := by omega
      have e := Lib.hid (allK_yes HT.out)
      go_wp2
      go_ret
      exact ⟨by rw [e.out]; rfl, grownBy_trans g0 hgr⟩

end Go.Proofs.YtlnffpofbfigaaaGreatDoor

/-
  impl.premisesTrue, impl.PremisesOk: the premises' questions are put behind one another. No condition.
-/
namespace Go.Proofs.YtlnffpofbfigaaaGreatDoor
open Go.RowKit Go.Shelf

theorem infoQ : (Tryz.prog.info? 167).map (fun i => (i.zero, i.size, i.bytes)) = some (some .nilFunc, 1, 8) := by kernel_rfl

theorem own_alloc {w : World} {base : Nat} {e : TypeId} {v : Value} {n : Nat} {xs : List Value} (h : w.ownsRow base e 1 v n xs) (o : Obj) : (w.alloc o).ownsRow base e 1 v n xs := World.ownsRow.alloc h o

theorem truth_box (t : Tr) (w : World) :
    Calls Tryz.prog 164 #[.iface (nodeT t) (nodeP t)] w fun e w' => e = .returned (.func (.func 196) #[] #[.pointer (some ⟨w.heap.size, 0, none⟩)]) ∧ Boxed w' w.heap.size 131 (.iface (nodeT t) (nodeP t)) ∧ w.grownBy w' none ∧ w'.heap.size = w.heap.size + 1 := by
  refine (truth_any t w).mono ?_
  rintro e w' ⟨rfl, rfl⟩
  exact ⟨rfl, Boxed.new _ _ _, World.grownBy_alloc _ _ none, by simp⟩
theorem keepB {V W : World} {a : Addr} {x : Value} (h : V.cell? a = some x ∧ V.frozen? a = false) (hg : V.grownBy W none) : W.cell? a = some x ∧ W.frozen? a = false :=
  ⟨cell_grown h.1 hg, (World.frozen?_of_block (hg.block a.block (World.block_lt_of_cell? V _ h.1) (by simp))).trans h.2⟩
theorem keepC {V W : World} {a : Addr} {x : Value} {row : Option Nat} (h : V.cell? a = some x ∧ V.frozen? a = false) (hg : V.grownBy W row) (hr : some a.block ≠ row) : W.cell? a = some x ∧ W.frozen? a = false :=
  ⟨(World.cell?_of_block (hg.block a.block (World.block_lt_of_cell? V _ h.1) hr)).trans h.1, (World.frozen?_of_block (hg.block a.block (World.block_lt_of_cell? V _ h.1) hr)).trans h.2⟩

/-- The first k questions, as they lie while they are put together. -/
def QsTo (ss : List ByteArray) (k : Nat) (xs : List Value) (wr : World) : Prop :=
  ∀ j, j < k → ∃ t Q, fOf (bl (ss.getD j nilS)) = some t ∧ xs[j]? = some (.func (.func 196) #[] #[.pointer (some ⟨Q, 0, none⟩)]) ∧ Boxed wr Q 131 (.iface (nodeT t) (nodeP t))
def PrRel (ss : List ByteArray) (w : World) (i : Value) (wr : World) : Prop :=
  ∃ (k : Nat) (xs : List Value) (v : Value), k ≤ ss.length ∧ i = .int .i64 k ∧ Boxed wr w.heap.size 209 v ∧ wr.ownsRow w.heap.size 167 1 v k xs ∧ QsTo ss k xs wr ∧ w.grownBy wr none

theorem QsTo.grown {ss : List ByteArray} {k : Nat} {xs : List Value} {w w' : World} (h : QsTo ss k xs w) (hg : w.grownBy w' none) : QsTo ss k xs w' := fun j hj => by
  obtain ⟨t, Q, h1, h2, h3⟩ := h j hj
  exact ⟨t, Q, h1, h2, h3.kept hg (by simp)⟩

/-- One question more is put to them. -/
theorem pr_next {ss : List ByteArray} {w w2 V w3 : World} {k : Nat} {xs : List Value} {v : Value} {gg cp : Nat} {t : Tr} {o : Obj}
    (hg2 : w.grownBy w2 none) (hbox : Boxed w2 w.heap.size 209 v) (hq : QsTo ss k xs w2) (ho : fOf (bl (ss.getD k nilS)) = some t)
    (hown : w2.ownsRow w.heap.size 167 1 v k xs) (gy : w2.grownBy V none) (hbV : Boxed V w2.heap.size 131 (.iface (nodeT t) (nodeP t)))
    (hgrow : (V.alloc o).grownBy w3 v.ownBlock)
    (hown3 : w3.ownsRow w.heap.size 167 1 (.slice (some ⟨gg, 0, none⟩) (k + 1) cp) (k + 1) (xs ++ [.func (.func 196) #[] #[.pointer (some ⟨w2.heap.size, 0, none⟩)]])) :
    Boxed (w3.setCell ⟨w.heap.size, 0, none⟩ (.slice (some ⟨gg, 0, none⟩) (k + 1) cp)) w.heap.size 209 (.slice (some ⟨gg, 0, none⟩) (k + 1) cp) ∧
    (w3.setCell ⟨w.heap.size, 0, none⟩ (.slice (some ⟨gg, 0, none⟩) (k + 1) cp)).ownsRow w.heap.size 167 1 (.slice (some ⟨gg, 0, none⟩) (k + 1) cp) (k + 1) (xs ++ [.func (.func 196) #[] #[.pointer (some ⟨w2.heap.size, 0, none⟩)]]) ∧
    QsTo ss (k + 1) (xs ++ [.func (.func 196) #[] #[.pointer (some ⟨w2.heap.size, 0, none⟩)]]) (w3.setCell ⟨w.heap.size, 0, none⟩ (.slice (some ⟨gg, 0, none⟩) (k + 1) cp)) ∧
    w.grownBy (w3.setCell ⟨w.heap.size, 0, none⟩ (.slice (some ⟨gg, 0, none⟩) (k + 1) cp)) none := by
  have gV : w2.grownBy (V.alloc o) none := grownBy_trans gy (World.grownBy_alloc V o none)
  have oV : (V.alloc o).ownsRow w.heap.size 167 1 v k xs := World.ownsRow.kept hown gV (by cases v.ownBlock <;> simp)
  have b1 : Boxed (V.alloc o) w.heap.size 209 v := hbox.kept gV (by simp)
  have b3 : Boxed w3 w.heap.size 209 v := b1.kept hgrow (b1.not_row (by decide) oV)
  have old : ∀ {Q : Nat} {u : Value}, Boxed (V.alloc o) Q 131 u → Boxed (w3.setCell ⟨w.heap.size, 0, none⟩ (.slice (some ⟨gg, 0, none⟩) (k + 1) cp)) Q 131 u := fun {Q u} hQ => by
    have h3 := hQ.kept hgrow (hQ.not_row (by decide) oV)
    refine h3.other (fun e => ?_) _
    subst e
    have e2 := (show w3.heap[w.heap.size]? = _ from h3).symm.trans b3
    simp at e2
  have hxl := hown.1
  refine ⟨b3.set _, World.ownsRow.kept hown3 (grownBy_setCell' w3 _ _) (.inr fun e => ?_), fun j hj => ?_, grownBy_own (grownBy_row (grownBy_trans hg2 gV) oV (Nat.le_refl _) hgrow) (grownBy_setCell' w3 _ _)⟩
  · exact b3.not_row (by decide) hown3 e.symm
  · by_cases e : j = k
    · subst e
      refine ⟨t, w2.heap.size, ho, ?_, old (hbV.alloc o)⟩
      rw [List.getElem?_append_right (by omega), show j - xs.length = 0 by omega]
      rfl
    · obtain ⟨u, Q, h1, h2, h3⟩ := hq j (by omega)
      exact ⟨u, Q, h1, by rw [List.getElem?_append_left (by omega)]; exact h2, old (h3.kept gV (by simp))⟩

/-- What impl.premisesTrue leaves. -/
def PremPost (ss : List ByteArray) (w : World) (e : Ending) (w' : World) : Prop :=
  w.grownBy w' none ∧ ((prOf (ss.map bl) = none ∧ e = .returned (.tuple #[.nilFunc, .bool false])) ∨
    (∃ ts B, prOf (ss.map bl) = some ts ∧ PremAt w' B ts ∧ e = .returned (.tuple #[.func (.func 195) #[] #[.pointer (some ⟨B, 0, none⟩)], .bool true])))

theorem prOf_at_none {ss : List ByteArray} {k : Nat} (hk : k < ss.length) (h : fOf (bl (ss.getD k nilS)) = none) : prOf (ss.map bl) = none := by
  cases e : prOf (ss.map bl) with
  | none => rfl
  | some ts =>
    obtain ⟨t, _, ht⟩ := fsOf_at (prOf_of e).2 k (by simpa using hk)
    rw [show (ss.map bl).getD k [] = bl (ss.getD k nilS) by simp [List.getD_eq_getElem?_getD, hk]] at ht
    rw [h] at ht; cases ht
theorem prOf_at_some {ss : List ByteArray} (hs : ss.length ≤ 3) (h : ∀ k, k < ss.length → ∃ t, fOf (bl (ss.getD k nilS)) = some t) : ∃ ts, prOf (ss.map bl) = some ts := by
  obtain ⟨ts, ht⟩ := fsOf_of (ls := ss.map bl) fun i hi => by
    obtain ⟨t, ht⟩ := h i (by simpa using hi)
    rw [show (ss.map bl).getD i [] = bl (ss.getD i nilS) by simp at hi; simp [List.getD_eq_getElem?_getD, hi]]
    exact isF_t ht
  exact ⟨ts, by rw [prOf_s (by simpa using hs)]; exact ht⟩

/-- All questions are there: what the function over premises captures. -/
theorem prem_made {ss : List ByteArray} {xs : List Value} {v : Value} {B base : Nat} {wr : World} (hs : ss.length ≤ 3) (hb : Boxed wr B 209 v)
    (hown : wr.ownsRow base 167 1 v ss.length xs) (hq : QsTo ss ss.length xs wr) : ∃ ts, prOf (ss.map bl) = some ts ∧ PremAt wr B ts := by
  obtain ⟨ts, ht⟩ := prOf_at_some hs fun k hk => by obtain ⟨t, _, h, _⟩ := hq k hk; exact ⟨t, h⟩
  have hl : ts.length = ss.length := by have := fsOf_len (prOf_of ht).2; simpa using this
  refine ⟨ts, ht, by omega, ?_⟩
  rcases hown.2 with ⟨rfl, h0⟩ | ⟨g, cap, cur, rfl, _⟩
  · exact ⟨none, 0, by rw [hl, h0]; exact hb.cell, .inl (List.length_eq_zero_iff.1 (by omega))⟩
  · refine ⟨some ⟨g, 0, none⟩, cap, by rw [hl]; exact hb.cell, .inr ⟨g, 0, rfl, fun i t hi => ?_⟩⟩
    have hlt : i < ss.length := by have := (List.getElem?_eq_some_iff.1 hi).1; omega
    obtain ⟨u, Q, h1, h2, h3⟩ := hq i hlt
    obtain ⟨u', h4, h5⟩ := fsOf_at (prOf_of ht).2 i (by simpa using hlt)
    rw [show (ss.map bl).getD i [] = bl (ss.getD i nilS) by simp [List.getD_eq_getElem?_getD, hlt]] at h5
    rw [h1] at h5
    cases h5
    rw [hi] at h4
    cases h4
    refine ⟨Q, ?_, h3.cell⟩
    rw [Nat.zero_add, World.ownsRow.cellAt hown i (by omega), h2]

theorem prem_long (a : Option Addr) (cap : Nat) (ss : List ByteArray) (hl : 3 < ss.length) (hm : ss.length ≤ maxLen) (w : World) :
    Calls Tryz.prog 162 #[.slice a ss.length cap] w (PremPost ss w) := by
  have e : Hid (prOf (ss.map bl) = none) := prOf_l (by simp; omega)
  unfold maxLen at hm
  go_enter Tryz.func162, Tryz.ntmps162
  go_wp2_with fail
  go_ret2
  exact ⟨grownBy_refl _ _, .inl ⟨e.out, rfl⟩⟩

set_option maxRecDepth 100000 in
set_option maxHeartbeats 4000000 in
theorem prem_short (a : Option Addr) (cap : Nat) (ss : List ByteArray) (hl : ss.length ≤ 3) (w : World) (h : StrsAt w a ss) :
    Calls Tryz.prog 162 #[.slice a ss.length cap] w (PremPost ss w) := by
  obtain ⟨i0, hi, hz0, hz1, hz2⟩ := info_parts infoQ
  have Hh := Lib.hid h
  clear h
  go_enter Tryz.func162, Tryz.ntmps162
  go_wp2_with fail
  go_loopw [15] (fun i wr => PrRel ss w i wr) (fun i _ => ss.length - (intOf i).toNat)
  case atStart => exact ⟨0, [], .slice none 0 0, by omega, rfl, Boxed.new w _ _, World.ownsRow_nil _ _ _ _, fun j hj => absurd hj (by omega), World.grownBy_alloc _ _ none⟩
  case round =>
    obtain ⟨k, xs, v, hk, rfl, hbox, hown, hq, hgr⟩ := hrel
    have Hq := Lib.hid hq
    clear hq
    by_cases hlt : k < ss.length
    · have hx2 := Hh.out.grown hgr
      rcases hx2.2 with h0 | ⟨bx, ox, rfl, hbx, hcx⟩
      · rw [h0] at hlt; simp at hlt
      have hc1 := hcx k hlt
      clear hx2 hcx hbx
      cases ho : fOf (bl (ss.getD k nilS)) with
      | none =>
        have e := Lib.hid (prOf_at_none hlt ho)
        have ct := tree_no (ss.getD k nilS) wr ho
        clear ho hbox hown
        generalize ss.getD k nilS = s at *
        go_wp2_with (go_at_call 105; refine ct.mono ?_; rintro e w2 ⟨u, hu, rfl, gx⟩)
        go_ret2
        exact ⟨grownBy_trans hgr gx, .inl ⟨e.out, rfl⟩⟩
      | some t =>
        have ct := tree_yes (ss.getD k nilS) wr ho
        have Ho := Lib.hid ho
        have hks := Lib.hid (rfl : ss.getD k nilS = ss.getD k nilS)
        clear ho hks
        obtain ⟨s, hs⟩ : ∃ s, ss.getD k nilS = s := ⟨_, rfl⟩
        rw [hs] at hc1 ct
        have Hs := Lib.hid hs
        clear hs
        go_wp2_with (go_at_call 105; refine ct.mono ?_; rintro e w2 ⟨rfl, gx⟩)
        clear ct hc1
        have hbox2 : Boxed w2 w.heap.size 209 v := hbox.kept gx (by simp)
        have hown2 := hown.kept gx (by cases v.ownBlock <;> simp)
        have hg2 := grownBy_trans hgr gx
        have hn : k + 1 ≤ maxLen := by unfold maxLen; omega
        have hby : (k + 1) * 8 ≤ 140737488355328 := by omega
        have lbx := hbox2.lt
        have nr : v.ownBlock ≠ some w.heap.size := fun e => hbox2.not_row (by decide) hown2 e.symm
        have cT : ∀ w : World, Calls Tryz.prog 164 #[.iface (nodeT t) (nodeP t)] w fun e w' => e = .returned (.func (.func 196) #[] #[.pointer (some ⟨w.heap.size, 0, none⟩)]) ∧ Boxed w' w.heap.size 131 (.iface (nodeT t) (nodeP t)) ∧ w.grownBy w' none ∧ w'.heap.size = w.heap.size + 1 := truth_box t
        have kp : ∀ V : World, w2.drew.grownBy V none → V.ownsRow w.heap.size 167 1 v k xs := fun V g => World.ownsRow.kept hown2.drew g (by cases v.ownBlock <;> simp)
        replace nr : some w.heap.size ≠ v.ownBlock := fun e => nr e.symm
        have hb : w2.drew.cell? ⟨w.heap.size, 0, none⟩ = some v ∧ w2.drew.frozen? ⟨w.heap.size, 0, none⟩ = false := ⟨hbox2.cell, hbox2.frozen⟩
        go_region_law (first | (go_simp; refine (cT _).mono ?_; rintro e V ⟨rfl, hbV, gy, sV⟩; have hcV := keepB hb gy; obtain ⟨hcV1, hcV2⟩ := hcV) | (refine step_append_lies _ (by rfl) _ _ _ (by rfl) w.heap.size 167 i0 _ 1 8 Tryz.underlying209 hi hz0 hz1 hz2 rfl (by omega) v k xs (by rfl) (by first | exact own_alloc (kp V gy).drew _ | exact (own_alloc (kp V gy) _).drew | exact own_alloc (kp V gy) _) ⟨w2.heap.size + 1, 0, none⟩ 1 1 [.func (.func 196) #[] #[.pointer (some ⟨w2.heap.size, 0, none⟩)]] (by rfl) (by rfl) (World.news_of_block (cs := #[.func (.func 196) #[] #[.pointer (some ⟨w2.heap.size, 0, none⟩)]]) (t := 167) (fr := (0, 0)) (by have hha := heap_alloc_new V (Obj.cells #[.func (.func 196) #[] #[.pointer (some ⟨w2.heap.size, 0, none⟩)]] 167); rw [sV] at hha; exact hha)) (by simp [Value.oneCell']) (by omega) hn hby (by have hgs := hg2.size; have hgt : w2.heap.size ≤ V.heap.size := gy.size; simp; omega) (w2.heap.size + 2) (by have hgt : V.heap.size = w2.heap.size + 1 := sV; simp; omega) ?_; intro gg cp w3 hown3 hgrow hat hlt3; have hc3 := keepC (keepB ⟨hcV1, hcV2⟩ (World.grownBy_alloc V _ none)) hgrow nr; obtain ⟨hc31, hc32⟩ := hc3))
        all_goals
          obtain ⟨r1, r2, r3, r4⟩ := pr_next hg2 hbox2 (Hq.out.grown gx) Ho.out hown2 (grownBy_trans (grownBy_drew (grownBy_refl w2 none)) gy) hbV hgrow hown3
          have R3 := Lib.hid r3
          clear r3 hown3 hgrow hbV gy hown2 hbox2 hown hbox
          go_wp2
          go_roundw
          case rel => exact ⟨k + 1, _, _, by omega, by go_num, r1, r2, R3.out, r4⟩
          case measure => simp [intOf]; omega
    · obtain rfl : k = ss.length := by omega
      obtain ⟨ts, hp, hP⟩ := prem_made hl hbox hown Hq.out
      have Hp := Lib.hid hp
      have HP := Lib.hid hP
      clear hp hP hbox hown
      go_wp2
      go_ret2
      exact ⟨hgr, .inr ⟨ts, _, Hp.out, HP.out, rfl⟩⟩

end Go.Proofs.YtlnffpofbfigaaaGreatDoor

/-
  A range over a function that ranges over a function itself and calls its own loop's body in the rounds: what such a function owes (SeqStopsO: the loop's invariant abides the turn of whatever is no cells and was laid since; each round keeps whatever lies beyond the call), and the law of a loop over it. No program is named.
-/
namespace Go.Proofs.YtlnffpofbfigaaaGreatDoor
open Go.RowKit

/-- Whatever lies at or beyond block B lies as it lay. -/
structure KeepsAt (B : Nat) (X Y : World) : Prop where
  size : X.heap.size ≤ Y.heap.size
  same : ∀ (k : Nat) (o : Obj), B ≤ k → X.heap[k]? = some o → Y.heap[k]? = some o
theorem KeepsAt.refl (B : Nat) (X : World) : KeepsAt B X X := ⟨Nat.le_refl _, fun _ _ _ h => h⟩
theorem KeepsAt.trans {B : Nat} {X Y Z : World} (h : KeepsAt B X Y) (k : KeepsAt B Y Z) : KeepsAt B X Z := ⟨Nat.le_trans h.size k.size, fun i o hB hi => k.same i o hB (h.same i o hB hi)⟩
theorem KeepsAt.mono {B B' : Nat} {X Y : World} (h : KeepsAt B X Y) (hB : B ≤ B') : KeepsAt B' X Y := ⟨h.size, fun i o hi ho => h.same i o (Nat.le_trans hB hi) ho⟩
theorem KeepsAt.of_grownBy {B : Nat} {X Y : World} {row : Option Nat} (hg : X.grownBy Y row) (hr : ∀ j, row = some j → j < B) : KeepsAt B X Y :=
  ⟨hg.size, fun k o hB hk => (hg.block k (Array.getElem?_eq_some_iff.1 hk).1 (fun e => by have := hr k e.symm; omega)).trans hk⟩
theorem KeepsAt.grown {B : Nat} {X Y : World} (hg : X.grownBy Y none) : KeepsAt B X Y := KeepsAt.of_grownBy hg (by simp)
theorem KeepsAt.alloc (B : Nat) (X : World) (o : Obj) : KeepsAt B X (X.alloc o) := KeepsAt.grown (World.grownBy_alloc X o none)
theorem KeepsAt.drew (B : Nat) (X : World) : KeepsAt B X X.drew := ⟨Nat.le_refl _, fun _ _ _ h => h⟩
theorem KeepsAt.setCell {B : Nat} (X : World) {b : Nat} (hb : b < B) (v : Value) : KeepsAt B X (X.setCell ⟨b, 0, none⟩ v) := KeepsAt.of_grownBy (grownBy_setCell' X b v) (fun j e => by cases e; exact hb)
theorem KeepsAt.putObj {B : Nat} (X : World) {b : Nat} (hb : b < B) (o : Obj) : KeepsAt B X (X.putObj b o) := KeepsAt.of_grownBy (grownBy_putObj' X b o) (fun j e => by cases e; exact hb)
theorem KeepsAt.block {B : Nat} {X Y : World} (h : KeepsAt B X Y) {k : Nat} (hB : B ≤ k) (hk : k < X.heap.size) : Y.heap[k]? = X.heap[k]? := by
  rw [Array.getElem?_eq_getElem hk]
  exact h.same k _ hB (Array.getElem?_eq_getElem hk)
theorem KeepsAt.keeps {B : Nat} {X Y : World} (h : KeepsAt B X Y) : KeepsFrom B X Y := ⟨h.size, fun k o hB ho _ => h.same k o hB ho⟩

def SeqStopsO {α : Type} (F : Fence) (n : Nat) (P : Program) (g : Nat) (lb : Array Value) (encs : α → Array Value) (Kp : World → World → Prop) (S Sp : List α → Prop) (N : Nat) (w : World) : Prop :=
  ∀ (l : Nat) (J Jx : List α → World → Prop) (W : World), Below w.heap.size w W → OwnFrom W.heap.size J → OwnFrom W.heap.size Jx →
    (∀ pre x W1, J pre W1 → pre.length < N → YieldAt F (n - 1) P l (encs x) W1 fun e W' =>
      ((e = .returned (.bool true) ∧ J (pre ++ [x]) W' ∧ Kp W1 W') ∨ (e = .returned (.bool false) ∧ Jx (pre ++ [x]) W')) ∧ KeepsAt W.heap.size W1 W') →
    J [] W →
    CallsIn F n P g (#[.func (.yield l) #[] #[]] ++ lb) W fun e W' => (∃ v, e = .returned v) ∧ ((∃ xs, S xs ∧ J xs W') ∨ (∃ pre, Sp pre ∧ Jx pre W'))

/-- How the body of a round may be left. -/
def ownPostO {α : Type} (B : Nat) (Kp : World → World → Prop) (I : List α → World → Prop) (Ix : Code → List α → World → Prop) (xs : List α) (W : World) : Exit → Act → World → Prop
  | .normal, _, W' => KeepsAt B W W' ∧ Kp W W' ∧ I xs W'
  | .ret, _, W' => KeepsAt B W W' ∧ Ix .ret xs W'
  | .exit id, _, W' => KeepsAt B W W' ∧ Ix (.exit id) xs W'
  | .goto t, _, W' => KeepsAt B W W' ∧ Ix (.goto t) xs W'
  | .panic _, _, _ => False
  | .outgrown, _, _ => False

variable {F : Fence} {n : Nat} {P : Program}

theorem wpIn_rangeFunc_ownO {α : Type} {g : Operand} {ps : Array Tmp} {assign body : Code} {Q : Exit → Act → World → Prop} {a : Act} {w : World}
    (hro : F.round = none) (h1 : 1 ≤ n) {gf : Nat} {lb : Array Value} (hg : a.eval g = .func (.func gf) #[] lb) (hFg : F.fn gf) (eg : ∀ args w, (callFunc gf args).run P w = .ok (.enter gf args) w)
    {encs : α → Array Value} {Kp : World → World → Prop} {S Sp : List α → Prop} {N : Nat} {w0 : World} (hseq : SeqStopsO F (n - 1) P gf lb encs Kp S Sp N w0)
    (hKt : ∀ {A B C : World}, Kp A B → Kp B C → Kp A C) (hKb : ∀ (W : World) (l : Nat) (o o' : Obj), w.heap.size ≤ l → W.heap[l]? = some o → o.isCells = false → Kp W (W.putObj l o')) (hb0 : Below w0.heap.size w0 w) (hps : ∀ x, (encs x).size = ps.size)
    (I : List α → World → Prop) (Ix : Code → List α → World → Prop) (hI : OwnFrom w.heap.size I) (hIx : ∀ c, OwnFrom w.heap.size (Ix c)) (h0 : I [] w) (Ax : α → Act → World → Prop) (hAx : ∀ x a', OwnFrom w.heap.size (fun (_ : Unit) W => Ax x a' W))
    (hassign : ∀ (l : Nat) (pre : List α) (x : α) (W : World) (K : Act → World → Prop), I pre W → (∀ a' W', KeepsAt w.heap.size W W' → Kp W W' → I pre W' → Ax x a' W' → K a' W') →
      assign.wpIn (F.inRound l) (n - 1 - 1) P (Exit.then K (fun _ _ _ => False)) { tmps := (ps.zip (encs x)).foldl (fun t (p, v) => t.setIfInBounds p v) a.tmps, defers := [] } W)
    (hbody : ∀ (l : Nat) (pre : List α) (x : α) (a' : Act) (W : World), w.heap.size ≤ l → (∃ r, W.heap[l]? = some (.loop r)) → I pre W → Ax x a' W → pre.length < N → body.wpIn (F.inRound l) (n - 1 - 1) P (ownPostO w.heap.size Kp I Ix (pre ++ [x]) W) a' W)
    (hdone : ∀ (D : Nat) (xs : List α) (W : World), w.heap.size ≤ D → S xs → I xs W → W.heap[D]? = some (.deferred (some [])) → Q .normal { a with defers := { target := .collected D, args := #[] } :: a.defers } W)
    (hstop : ∀ (D : Nat) (c : Code) (pre : List α) (W : World), w.heap.size ≤ D → Sp pre → Ix c pre W → W.heap[D]? = some (.deferred (some [])) → c.wpIn F n P Q { a with defers := { target := .collected D, args := #[] } :: a.defers } W) :
    (Code.rangeFunc g ps assign body).wpIn F n P Q a w := by
  refine wpIn_rangeFunc fun fn hfn => ?_
  rw [hro]
  generalize hs : w.heap.size = s at *
  obtain ⟨rec, hrec⟩ : ∃ rec : LoopState → Option Code → Loop, rec = fun st pe => { state := st, pending := pe, fn, tmps := a.tmps, params := ps, assign, body, defers := s } := ⟨_, rfl⟩
  obtain ⟨V, hV⟩ : ∃ V, (w.alloc (.deferred (some []))).alloc (.loop (rec .ready none)) = V := ⟨_, rfl⟩
  have hVs : V.heap.size = s + 2 := by rw [← hV]; simp [hs]
  have hVl : V.heap[s + 1]? = some (.loop (rec .ready none)) := by
    rw [← hV, ← hs]
    have := World.alloc_heap_new (w.alloc (.deferred (some []))) (.loop (rec .ready none))
    rwa [World.size_alloc] at this
  have hVd : V.heap[s]? = some (.deferred (some [])) := by
    rw [← hV, ← hs]
    exact (Below.heap_alloc _ _ _ (by simp)).trans (World.alloc_heap_new w _)
  have hVi : I [] V := by rw [← hV]; exact hI.alloc _ (hI.alloc _ h0)
  have hVb : Below w0.heap.size w0 V := by
    have := hb0.size
    rw [← hV]; exact hb0.trans ((((Below.refl _ w).alloc (Nat.le_refl _) _).alloc (by simp) _).mono this)
  refine ⟨s + 1, [{ target := .collected s, args := #[] }], V, { target := .fn (.func gf) lb, args := #[.func (.yield (s + 1)) #[] #[]] }, V, gf, #[.func (.yield (s + 1)) #[] #[]] ++ lb, V, ?_, ?_, ?_, ?_, fun _ => h1, ?_⟩
  · rw [← hV, hrec, ← hs]; exact run_enterLoop_outer _ _ _ _ _
  · simp only [resolve, hg]
    simp [go_sem]
  · intro f' hf'
    simp [Target.leads] at hf'
    subst hf'
    exact hFg
  · simp [invoke, go_sem, eg]
  have up : ∀ {A : World} {row : Option Nat}, (∀ r, row = some r → V.heap.size ≤ r ∧ ∃ o : Obj, A.heap[r]? = some o ∧ o.isCells = false) → (∀ r, row = some r → s ≤ r ∧ ∃ o : Obj, A.heap[r]? = some o ∧ o.isCells = false) :=
    fun hr r e => ⟨by have := (hr r e).1; omega, (hr r e).2⟩
  have st : ∀ {A B : World} {row : Option Nat} {k : Nat} {o : Obj}, A.grownBy B row → (∀ r, row = some r → V.heap.size ≤ r ∧ ∃ o : Obj, A.heap[r]? = some o ∧ o.isCells = false) → k ≤ s + 1 → A.heap[k]? = some o → B.heap[k]? = some o :=
    fun hg' hr hk ho => (hg'.block _ (Array.getElem?_eq_some_iff.1 ho).1 (fun e => by have := (hr _ e.symm).1; omega)).trans ho
  refine (hseq (s + 1)
    (fun pre W => I pre W ∧ W.heap[s + 1]? = some (.loop (rec .ready none)) ∧ W.heap[s]? = some (.deferred (some [])))
    (fun pre W => ∃ c, Ix c pre W ∧ W.heap[s + 1]? = some (.loop (rec .done (some c))) ∧ W.heap[s]? = some (.deferred (some [])))
    V hVb
    (fun t A B row h hg' hr => ⟨hI t A B row h.1 hg' (up hr), st hg' hr (Nat.le_refl _) h.2.1, st hg' hr (by omega) h.2.2⟩)
    (fun t A B row h hg' hr => by
      obtain ⟨c, h1, h2, h3⟩ := h
      exact ⟨c, hIx c t A B row h1 hg' (up hr), st hg' hr (Nat.le_refl _) h2, st hg' hr (by omega) h3⟩)
    ?_ ⟨hVi, hVl, hVd⟩).mono ?_
  · rintro pre x W ⟨hi, hl, hd⟩ hlen
    have hy := run_yield (P := P) (args := encs x) hl (by rw [hrec]; exact hps x)
    rw [hrec] at hy
    refine ⟨fn, _, assign, body, hy, roundIn_of_wpIn hfn (hassign _ pre x W _ hi fun a' Wa hka hpa hia hxa => ?_)⟩
    clear hy
    have hla := hka.same _ _ (by omega) hl
    have hda := hka.same _ _ (Nat.le_refl _) hd
    have hlt : s + 1 < Wa.heap.size := (Array.getElem?_eq_some_iff.1 hla).1
    refine ⟨_, run_beginRound hla (by rw [hrec]), ?_⟩
    obtain ⟨Wb, hWb⟩ : ∃ Wb, Wa.putObj (s + 1) (.loop { rec .ready none with state := .busy }) = Wb := ⟨_, rfl⟩
    have hlb : Wb.heap[s + 1]? = some (.loop { rec .ready none with state := .busy }) := by rw [← hWb]; exact World.putObj_heap_same hlt
    have hdb : Wb.heap[s]? = some (.deferred (some [])) := by rw [← hWb]; exact (World.putObj_heap_other (by omega)).trans hda
    have hpb : Kp Wa Wb := by rw [← hWb]; exact hKb _ _ _ _ (by omega) hla rfl
    have hib : I pre Wb := by rw [← hWb]; exact hI.putObj _ hia (by omega) hla rfl
    have hxb : Ax x a' Wb := by rw [← hWb]; exact (hAx x a').putObj (s := ()) _ hxa (by omega) hla rfl
    have hkb : KeepsAt V.heap.size Wa Wb := by rw [← hWb]; exact KeepsAt.putObj _ (by omega) _
    rw [hWb]
    refine wpIn_mono (hbody _ pre x a' Wb (by omega) ⟨_, hlb⟩ hib hxb hlen) ?_
    have fin : ∀ (jump : Option Code) (W3 : World), KeepsAt s Wb W3 → ∃ W4, (Instr.endRound (s + 1) jump).run P W3 = .ok (.bool jump.isNone) W4 ∧ W4 = W3.putObj (s + 1) (.loop (rec (if jump.isNone then .ready else .done) jump)) ∧
        W3.heap[s + 1]? = some (.loop { rec .ready none with state := .busy }) ∧ W4.heap[s + 1]? = some (.loop (rec (if jump.isNone then .ready else .done) jump)) ∧ W4.heap[s]? = some (.deferred (some [])) ∧ (Kp Wb W3 → Kp W W4) ∧ KeepsAt V.heap.size W W4 := fun jump W3 hk => by
      have h3 := hk.same _ _ (by omega) hlb
      have hr := run_endRound (P := P) jump h3
      refine ⟨_, ?_, rfl, h3, World.putObj_heap_same (Array.getElem?_eq_some_iff.1 h3).1, (World.putObj_heap_other (by omega)).trans (hk.same _ _ (Nat.le_refl _) hdb), fun hp => hKt hpa (hKt (hKt hpb hp) (hKb _ _ _ _ (by omega) h3 rfl)), (hka.mono (by omega)).trans (hkb.trans ((hk.mono (by omega)).trans (KeepsAt.putObj _ (by omega) _)))⟩
      rw [hrec] at hr ⊢
      exact hr
    rintro e a3 W3 hp
    cases e with
    | normal =>
      obtain ⟨hk, hp3, hi3⟩ := hp
      obtain ⟨W4, hr, e4, h3, h4, h5, h6, h7⟩ := fin none W3 hk
      exact ⟨_, _, hr, .inl ⟨rfl, ⟨by rw [e4]; exact hI.putObj _ hi3 (by omega) h3 rfl, h4, h5⟩, h6 hp3⟩, h7⟩
    | ret =>
      obtain ⟨hk, hi3⟩ := hp
      obtain ⟨W4, hr, e4, h3, h4, h5, _, h7⟩ := fin (some .ret) W3 hk
      exact ⟨_, _, hr, .inr ⟨rfl, .ret, by rw [e4]; exact (hIx _).putObj _ hi3 (by omega) h3 rfl, h4, h5⟩, h7⟩
    | exit id =>
      obtain ⟨hk, hi3⟩ := hp
      obtain ⟨W4, hr, e4, h3, h4, h5, _, h7⟩ := fin (some (.exit id)) W3 hk
      exact ⟨_, _, hr, .inr ⟨rfl, .exit id, by rw [e4]; exact (hIx _).putObj _ hi3 (by omega) h3 rfl, h4, h5⟩, h7⟩
    | goto t =>
      obtain ⟨hk, hi3⟩ := hp
      obtain ⟨W4, hr, e4, h3, h4, h5, _, h7⟩ := fin (some (.goto t)) W3 hk
      exact ⟨_, _, hr, .inr ⟨rfl, .goto t, by rw [e4]; exact (hIx _).putObj _ hi3 (by omega) h3 rfl, h4, h5⟩, h7⟩
    | panic ch => exact hp.elim
    | outgrown => exact hp.elim
  · rintro e W2 ⟨⟨v, rfl⟩, (⟨xs, hS, hi, hl, hd⟩ | ⟨pre, hSp, c, hi, hl, hd⟩)⟩
    · refine ⟨none, _, by have := run_endLoop (P := P) hl (by rw [hrec]; simp); rw [hrec] at this; exact this, hdone _ xs _ (Nat.le_refl _) hS (hI.putObj _ hi (by omega) hl rfl) ((World.putObj_heap_other (by omega)).trans hd)⟩
    · refine ⟨some c, _, by have := run_endLoop (P := P) hl (by rw [hrec]; simp); rw [hrec] at this; exact this, hstop _ c pre _ (Nat.le_refl _) hSp ((hIx c).putObj _ hi (by omega) hl rfl) ((World.putObj_heap_other (by omega)).trans hd)⟩

end Go.Proofs.YtlnffpofbfigaaaGreatDoor

/-
  impl.settingsWith and the function that it hands back: it yields just those settings to which the premises' question says yes: for every loop body that keeps what lay beyond the call. The chain has 1 to 6 steps.
-/
namespace Go.Proofs.YtlnffpofbfigaaaGreatDoor
open Go.RowKit Go.Shelf
attribute [local go_sem] Oper.semAt_some

theorem roundAny {F : Fence} (hd : F.depth = none) {m m' : Nat} {P : Program} {l : Nat} {f : FuncId} {tmps : Array Value} {assign body : Code} {w : World} {R : Ending → World → Prop}
    (h : RoundIn F m P l f tmps assign body w R) : RoundIn F m' P l f tmps assign body w R :=
  ⟨h.1, fun c cs _ => h.2 c cs (fun d e => by rw [hd] at e; cases e)⟩

theorem withs_any (F : Fence) (n : Nat) (h : F.fn 165) (hro : F.round = none) (N : Int) (B : Nat) (w : World) :
    CallsIn F n Tryz.prog 165 #[.int .i64 N, .func (.func 195) #[] #[.pointer (some ⟨B, 0, none⟩)]] w fun e w' =>
      e = .returned (.func (.func 197) #[] #[.pointer (some ⟨w.heap.size, 0, none⟩), .pointer (some ⟨w.heap.size + 1, 0, none⟩)]) ∧
      w' = (w.alloc (.cells #[.int .i64 N] 3)).alloc (.cells #[.func (.func 195) #[] #[.pointer (some ⟨B, 0, none⟩)]] 167) := by
  refine callsIn_of_wp Tryz.func165 rfl h ?_ hro
  simp only [Tryz.ntmps165, List.size_toArray, List.length_cons, List.length_nil, Nat.reduceAdd, Nat.reduceSub, Array.replicate_succ, Array.replicate_zero, List.push_toArray, List.append_toArray, List.nil_append, List.cons_append]
  gi_wp2
  go_ret
  exact ⟨rfl, rfl⟩

/-- What a round keeps: what lay below n0, and the two variables that the function has captured. -/
def KpW (n0 Bs Bq : Nat) (X Y : World) : Prop := Below n0 X Y ∧ KpC Bs X Y ∧ KpC Bq X Y
theorem kpW_t {n0 Bs Bq : Nat} {X Y Z : World} (h : KpW n0 Bs Bq X Y) (k : KpW n0 Bs Bq Y Z) : KpW n0 Bs Bq X Z := ⟨h.1.trans k.1, kpC_t h.2.1 k.2.1, kpC_t h.2.2 k.2.2⟩
theorem kpW_b {n0 Bs Bq : Nat} {w : World} (hn : n0 ≤ w.heap.size) (h1 : Bs < w.heap.size) (h2 : Bq < w.heap.size) (W : World) (l : Nat) (o o' : Obj) (hl : w.heap.size ≤ l) (ho : W.heap[l]? = some o) (_ : o.isCells = false) : KpW n0 Bs Bq W (W.putObj l o') :=
  ⟨(Below.refl n0 W).grown (grownBy_putObj' W l o') (by have := (Array.getElem?_eq_some_iff.1 ho).1; omega) (fun k e => by cases e; omega),
    World.cell?_of_block (World.putObj_heap_other (by show Bs ≠ l; omega)), World.cell?_of_block (World.putObj_heap_other (by show Bq ≠ l; omega))⟩
theorem KpW.grown {n0 Bs Bq : Nat} {X Y : World} (hn : n0 ≤ X.heap.size) (h1 : Bs < X.heap.size) (h2 : Bq < X.heap.size) (h : X.grownBy Y none) : KpW n0 Bs Bq X Y :=
  ⟨(Below.refl n0 X).grown h hn (by simp), KpC.grown h1 h, KpC.grown h2 h⟩

/-- Those that have come and were let by. -/
theorem filt_yes {q : Nat → Bool} {pre : List Nat} {x : Nat} (h : q x = true) : (pre ++ [x]).filter q = pre.filter q ++ [x] := by simp [h]
theorem filt_no {q : Nat → Bool} {pre : List Nat} {x : Nat} (h : q x = false) : (pre ++ [x]).filter q = pre.filter q := by simp [h]
theorem filt_lt {q : Nat → Bool} {pre : List Nat} {N : Nat} (h : pre.length < N) : (pre.filter q).length < N := Nat.lt_of_le_of_lt (List.length_filter_le _ _) h

set_option maxRecDepth 100000 in
set_option maxHeartbeats 4000000 in
theorem with_in (l Bs Bq B n0 N : Nat) (hN : 1 ≤ N ∧ N ≤ 6) (ts : List Tr) (w1 : World) (hP : PremAt w1 B ts) (hn0 : w1.heap.size = n0) (J Jx : List Nat → World → Prop) (W0 : World)
    (hJ : OwnFrom W0.heap.size J) (hJx : OwnFrom W0.heap.size Jx)
    (hY : ∀ pre x W, J pre W → pre.length < cub N → YieldAt Fence.wide 3 Tryz.prog l (encK N x) W fun e W' =>
      ((e = .returned (.bool true) ∧ J (pre ++ [x]) W' ∧ KpW n0 Bs Bq W W') ∨ (e = .returned (.bool false) ∧ Jx (pre ++ [x]) W')) ∧ KeepsAt W0.heap.size W W')
    (hBs : W0.cell? ⟨Bs, 0, none⟩ = some (.int .i64 N)) (hBq : W0.cell? ⟨Bq, 0, none⟩ = some (.func (.func 195) #[] #[.pointer (some ⟨B, 0, none⟩)]))
    (hb : Below n0 w1 W0) (hz : n0 ≤ W0.heap.size) (h0 : J [] W0) :
    CallsIn Fence.wide 4 Tryz.prog 197 #[.func (.yield l) #[] #[], .pointer (some ⟨Bs, 0, none⟩), .pointer (some ⟨Bq, 0, none⟩)] W0 fun e W' => (∃ v, e = .returned v) ∧
      ((∃ ys, ys = (List.range (cub N)).filter (allK N ts) ∧ J ys W') ∨ (∃ pre, (∃ k, k < cub N ∧ allK N ts k = true ∧ pre = (List.range (k + 1)).filter (allK N ts)) ∧ Jx pre W')) := by
  refine callsIn_of_wp_marks Tryz.func197 rfl trivial ?_ rfl
  simp only [Tryz.ntmps197, List.size_toArray, List.length_cons, List.length_nil, Nat.reduceAdd, Nat.reduceSub, Array.replicate_succ, Array.replicate_zero, List.push_toArray, List.append_toArray, List.nil_append, List.cons_append]
  have ls := World.block_lt_of_cell? W0 _ hBs
  have lq := World.block_lt_of_cell? W0 _ hBq
  have hs1 := cell_grown hBs (World.grownBy_alloc W0 (.cells #[.func (.yield l) #[] #[]] 166) none)
  gi_wp2_with (refine ⟨trivial, ?_⟩; gi_at_call 186; refine (settings_any _ _ trivial rfl _ _).mono ?_; rintro e w' ⟨rfl, rfl⟩)
  have hy0 := (BlkAt.new W0 #[.func (.yield l) #[] #[]] 166).alloc (.cells #[.int .i64 N] 3)
  have hc0 := BlkAt.new (W0.alloc (.cells #[.func (.yield l) #[] #[]] 166)) #[.int .i64 N] 3
  have hg : W0.grownBy _ none := grownBy_trans (World.grownBy_alloc W0 (.cells #[.func (.yield l) #[] #[]] 166) none) (World.grownBy_alloc _ (.cells #[.int .i64 N] 3) none)
  obtain ⟨W2, hW2⟩ : ∃ W2, ((W0.alloc (.cells #[.func (.yield l) #[] #[]] 166)).alloc (.cells #[.int .i64 N] 3)) = W2 := ⟨_, rfl⟩
  rw [World.size_alloc] at hc0
  rw [hW2] at hy0 hc0 hg ⊢
  have hsz : W2.heap.size = W0.heap.size + 1 + 1 := by rw [← hW2]; simp
  clear hW2 hs1
  refine wpIn_rangeFunc_ownH rfl (show 1 ≤ 4 from by decide) (gf := 206) (lb := #[.pointer (some ⟨W0.heap.size + 1, 0, none⟩)]) rfl trivial (enters_of Tryz.func206 (by kernel_rfl) rfl)
    (settings_stops Fence.wide (4 - 1) trivial rfl (by decide) (W0.heap.size + 1) N hN W2 (by omega) (hc0.cell rfl)) kpC_t (kpC_b (by omega)) (Below.refl _ _) (fun _ => rfl)
    (fun pre W => J (pre.filter (allK N ts)) W ∧ Below n0 w1 W ∧ W.cell? ⟨Bq, 0, none⟩ = some (.func (.func 195) #[] #[.pointer (some ⟨B, 0, none⟩)]) ∧ BlkAt W W0.heap.size #[.func (.yield l) #[] #[]] 166 ∧ BlkAt W (W0.heap.size + 1) #[.int .i64 N] 3)
    (fun c pre W => c = .ret ∧ (∃ p x, pre = p ++ [x] ∧ allK N ts x = true) ∧ Jx (pre.filter (allK N ts)) W)
    (fun s X Y row hs hg' hr => ⟨hJ _ X Y row hs.1 hg' (fun r e => ⟨by have := (hr r e).1; omega, (hr r e).2⟩), hs.2.1.grown hg' (by have := hs.2.1.size; have := hs.2.2.2.2.lt; omega) (fun r e => by have := (hr r e).1; omega), cell_kept hs.2.2.1 hg' (fun r e => (hr r e).2), blk_own (β := Unit) _ _ (fun _ => _) () X Y row hs.2.2.2.1 hg' (fun r e => (hr r e).2), blk_own (β := Unit) _ _ (fun _ => _) () X Y row hs.2.2.2.2 hg' (fun r e => (hr r e).2)⟩)
    (fun c s X Y row hs hg' hr => ⟨hs.1, hs.2.1, hJx _ X Y row hs.2.2 hg' (fun r e => ⟨by have := (hr r e).1; omega, (hr r e).2⟩)⟩)
    ⟨hJ [] W0 W2 none h0 hg (by simp), hb.grown hg hz (by simp), cell_grown hBq hg, hy0, hc0⟩
    (fun x a' W => ∃ b, W0.heap.size + 1 < b ∧ BlkAt W b (set4 N x) 164 ∧ a' = { tmps := #[.func (.yield l) #[] #[], .pointer (some ⟨Bs, 0, none⟩), .pointer (some ⟨Bq, 0, none⟩), .pointer (some ⟨W0.heap.size, 0, none⟩), .pointer (some ⟨b, 0, none⟩), .int .i64 N, .func (.func 206) #[] #[.pointer (some ⟨W0.heap.size + 1, 0, none⟩)], .agg #[.int .i64 N, .int .i64 (tA N x), .int .i64 (tB N x), .int .i64 (tC N x)], undef, undef, undef, undef, undef, undef, undef, undef, undef], defers := [] })
    (fun x a' => Own.from (fun s X Y row hs hg' hr => by obtain ⟨b, h1, h2, h3⟩ := hs; exact ⟨b, h1, blk_own (β := Unit) b _ (fun _ => set4 N x) () X Y row h2 hg' hr, h3⟩) _) ?assign ?body ?done ?stop
  case assign =>
    rintro l' pre x W K ⟨hj, hB, hq, hy, hc⟩ hK
    simp only [encK]
    gi_wp2
    exact hK _ _ ((KeepsOthers.alloc _ _).from _) (KpC.grown hc.lt (World.grownBy_alloc _ _ none)) ⟨hJ _ W _ none hj (World.grownBy_alloc _ _ none) (by simp), hB.alloc (by have := hc.lt; omega) _, cell_grown hq (World.grownBy_alloc _ _ none), hy.alloc _, hc.alloc _⟩ ⟨W.heap.size, hc.lt, BlkAt.new W _ _, rfl⟩
  case body =>
    rintro l' pre x a' W hl' ⟨r, hr⟩ ⟨hj, hB, hq, hy, hc⟩ ⟨b, hbb, hbx, rfl⟩ hlt
    have y0 : W.cell? ⟨W0.heap.size, 0, none⟩ = some (.func (.yield l) #[] #[]) := hy.cell rfl
    have x0 : W.cell? ⟨b, 0, none⟩ = some (.int .i64 N) := hbx.cell rfl
    have x1 : W.cell? ⟨b, 1, none⟩ = some (.int .i64 (tA N x)) := hbx.cell rfl
    have x2 : W.cell? ⟨b, 2, none⟩ = some (.int .i64 (tB N x)) := hbx.cell rfl
    have x3 : W.cell? ⟨b, 3, none⟩ = some (.int .i64 (tC N x)) := hbx.cell rfl
    have hPW : PremAt W B ts := hP.below (by rw [hn0]; exact hB)
    have hlc := hc.lt
    have hd : 1 ≤ 4 - 1 - 1 := by decide
    have cq := prem1_any N hN x ts B W hPW
    clear hPW
    cases hv : allK N ts x
    · rw [hv] at cq
      gi_wp2_with (refine ⟨trivial, ?_⟩; gi_at_call 195; refine (CallsIn.inRound l' (callsIn_wide.2 cq)).mono ?_; rintro e w' ⟨rfl, gx⟩)
      refine ⟨fun _ h => (by cases h), ?_⟩
      gi_wp2
      exact ⟨(KeepsOthers.of_grownBy gx (by simp)).from _, KpC.grown hc.lt gx, by rw [filt_no hv]; exact hJ _ W _ none hj gx (by simp), hB.grown gx (by have := hB.size; omega) (by simp), cell_grown hq gx, hy.grown gx, hc.grown gx⟩
    · rw [hv] at cq
      gi_wp2_with (refine ⟨trivial, ?_⟩; gi_at_call 195; refine (CallsIn.inRound l' (callsIn_wide.2 cq)).mono ?_; rintro e w' ⟨rfl, gx⟩; have y0' := cell_grown y0 gx; have x0' := cell_grown x0 gx; have x1' := cell_grown x1 gx; have x2' := cell_grown x2 gx; have x3' := cell_grown x3 gx; obtain ⟨fn, tmps, asg, bod, hyl, hR⟩ := hY (pre.filter (allK N ts)) x w' (hJ _ W _ none hj gx (by simp)) (filt_lt hlt); unfold encK at hyl)
      refine (RoundIn.mono (roundAny rfl hR) ?_)
      rintro e w4 ⟨hor, hka⟩
      have hg4 : KeepsFrom W2.heap.size W w4 := ((KeepsAt.grown gx).trans (hka.mono (by omega))).keeps
      rcases hor with ⟨rfl, hj4, hkp⟩ | ⟨rfl, hj4⟩
      · gi_wp2
        exact ⟨hg4, kpC_t (KpC.grown hc.lt gx) (World.cell?_of_block (hka.block (by show _ ≤ W0.heap.size + 1; omega) (hc.grown gx).lt)), by rw [filt_yes hv]; exact hj4, (hB.grown gx (by have := hB.size; omega) (by simp)).trans hkp.1, hkp.2.2.trans (cell_grown hq gx), hka.same _ _ (Nat.le_refl _) (hy.grown gx), hka.same _ _ (by omega) (hc.grown gx)⟩
      · gi_wp2
        exact ⟨hg4, rfl, ⟨pre, x, rfl, hv⟩, by rw [filt_yes hv]; exact hj4⟩
  case done =>
    rintro D ys W hD rfl ⟨hj, _⟩ hK
    gi_wp2
    refine ⟨by simp, .inl ⟨_, _, rfl, run_takeDeferred hK, ?_⟩⟩
    exact ⟨_, results_none rfl _ _ _, ⟨_, rfl⟩, .inl ⟨_, rfl, hJ.putObj _ hj (by omega) hK rfl⟩⟩
  case stop =>
    rintro D c pre W hD ⟨k, hk, rfl⟩ ⟨rfl, ⟨p, x, hpx, hqx⟩, hj⟩ hK
    have hpx' := hpx
    rw [List.range_succ] at hpx'
    obtain ⟨rfl, hx'⟩ := List.append_inj' hpx' rfl
    obtain rfl : k = x := by simpa using hx'
    gi_wp2
    refine ⟨by simp, .inl ⟨_, _, rfl, run_takeDeferred hK, ?_⟩⟩
    exact ⟨_, results_none rfl _ _ _, ⟨_, rfl⟩, .inr ⟨(List.range (k + 1)).filter (allK N ts), ⟨k, hk, hqx, by first | rfl | rw [List.range_succ, List.filter_append]⟩, hJx.putObj (s := (List.range (k + 1)).filter (allK N ts)) _ hj (by omega) hK rfl⟩⟩

theorem with_stops (Bs Bq B n0 N : Nat) (hN : 1 ≤ N ∧ N ≤ 6) (ts : List Tr) (w1 w : World) (hP : PremAt w1 B ts) (hn0 : w1.heap.size = n0)
    (hBs : w.cell? ⟨Bs, 0, none⟩ = some (.int .i64 N)) (hBq : w.cell? ⟨Bq, 0, none⟩ = some (.func (.func 195) #[] #[.pointer (some ⟨B, 0, none⟩)]))
    (hb : Below n0 w1 w) (hz : n0 ≤ w.heap.size) :
    SeqStopsO Fence.wide 4 Tryz.prog 197 #[.pointer (some ⟨Bs, 0, none⟩), .pointer (some ⟨Bq, 0, none⟩)] (encK N) (KpW n0 Bs Bq) (fun ys => ys = (List.range (cub N)).filter (allK N ts)) (fun pre => ∃ k, k < cub N ∧ allK N ts k = true ∧ pre = (List.range (k + 1)).filter (allK N ts)) (cub N) w := fun l J Jx W hW hJ hJx hY h0 =>
  with_in l Bs Bq B n0 N hN ts w1 hP hn0 J Jx W hJ hJx hY ((hW.cell (p := ⟨Bs, 0, none⟩) (World.block_lt_of_cell? w _ hBs)).trans hBs) ((hW.cell (p := ⟨Bq, 0, none⟩) (World.block_lt_of_cell? w _ hBq)).trans hBq)
    (hb.trans (hW.mono hz)) (Nat.le_trans hz hW.size) h0

end Go.Proofs.YtlnffpofbfigaaaGreatDoor

/-
  impl.PremisesOk and impl.CountTrue: how many values of the letters make all premises true. No condition.
-/
namespace Go.Proofs.YtlnffpofbfigaaaGreatDoor
open Go.RowKit Go.Shelf
attribute [local go_sem] Oper.semAt_some

theorem prem_any (a : Option Addr) (cap : Nat) (ss : List ByteArray) (w : World) (h : StrsAt w a ss) :
    Calls Tryz.prog 162 #[.slice a ss.length cap] w (PremPost ss w) := by
  by_cases hl : ss.length ≤ 3
  · exact prem_short a cap ss hl w h
  · exact prem_long a cap ss (by omega) h.1 w
theorem prem_no (a : Option Addr) (cap : Nat) (ss : List ByteArray) (w : World) (h : StrsAt w a ss) (ho : prOf (ss.map bl) = none) :
    Calls Tryz.prog 162 #[.slice a ss.length cap] w fun e w' => e = .returned (.tuple #[.nilFunc, .bool false]) ∧ w.grownBy w' none := by
  refine (prem_any a cap ss w h).mono ?_
  rintro e w' ⟨g, ⟨_, he⟩ | ⟨ts, B, h1, _⟩⟩
  · exact ⟨he, g⟩
  · rw [ho] at h1; cases h1
theorem prem_yes (a : Option Addr) (cap : Nat) (ss : List ByteArray) (w : World) (h : StrsAt w a ss) {ts : List Tr} (ho : prOf (ss.map bl) = some ts) :
    Calls Tryz.prog 162 #[.slice a ss.length cap] w fun e w' => ∃ B, e = .returned (.tuple #[.func (.func 195) #[] #[.pointer (some ⟨B, 0, none⟩)], .bool true]) ∧ PremAt w' B ts ∧ w.grownBy w' none := by
  refine (prem_any a cap ss w h).mono ?_
  rintro e w' ⟨g, ⟨h1, _⟩ | ⟨us, B, h1, h2, h3⟩⟩
  · rw [ho] at h1; cases h1
  · rw [ho] at h1; cases h1
    exact ⟨B, h3, h2, g⟩

theorem cnt_filt (N : Nat) (ts : List Tr) : ∀ K, ((List.range K).filter (allK N ts)).length = cntK N ts K := by
  intro K
  induction K with
  | zero => rfl
  | succ K ih =>
    rw [List.range_succ]
    cases h : allK N ts K
    · rw [filt_no h, cntK_miss h, ih]
    · rw [filt_yes h, cntK_hit h, List.length_append, ih]; rfl
theorem KpW.refl (n0 Bs Bq : Nat) (X : World) : KpW n0 Bs Bq X X := ⟨Below.refl _ _, rfl, rfl⟩

end Go.Proofs.YtlnffpofbfigaaaGreatDoor

/-
  impl.FollowsFrom: whether a formula is true wherever all premises are. No condition.
-/
namespace Go.Proofs.YtlnffpofbfigaaaGreatDoor
open Go.RowKit Go.Shelf
attribute [local go_sem] Oper.semAt_some

theorem ff_prem (a : Option Addr) (cap : Nat) (ss : List ByteArray) (w : World) (h : StrsAt w a ss) :
    Calls Tryz.prog 162 #[.slice a ss.length cap] w fun e w' => ∃ v, e = .returned (.tuple #[v, .bool (premB (ss.map bl))]) ∧ (v = .nilFunc ∨ ∃ B, v = .func (.func 195) #[] #[.pointer (some ⟨B, 0, none⟩)]) ∧ w.grownBy w' none := by
  refine (prem_any a cap ss w h).mono ?_
  rintro e w' ⟨g, ⟨h1, h2⟩ | ⟨ts, B, h1, _, h2⟩⟩
  · rw [premB_f h1]; exact ⟨_, h2, .inl rfl, g⟩
  · rw [premB_t h1]; exact ⟨_, h2, .inr ⟨B, rfl⟩, g⟩

/-- What impl.chainTree leaves, whatever it is. -/
def ChainOr (b : Bool) (w : World) (e : Ending) (w' : World) : Prop := ∃ v, IsNode v ∧ e = .returned (.tuple #[v, .bool b]) ∧ w.grownBy w' none
theorem chain_or (n : Int) (s : ByteArray) (w : World) : Calls Tryz.prog 163 #[.int .i64 n, .string s] w (ChainOr (inB n 1 6 && isF (bl s)) w) := by
  cases hi : inB n 1 6
  · exact chain_no n s w (.inl hi)
  · cases ho : fOf (bl s) with
    | none => rw [isF_f ho]; exact chain_no n s w (.inr ho)
    | some t =>
      rw [isF_t ho]
      exact (chain_yes s w hi ho).mono fun e w' ⟨h1, h2⟩ => ⟨_, .inr ⟨_, _, rfl⟩, h1, h2⟩

theorem res_in {w w1 w2 : World} (g1 : (w.alloc (.cells #[.bool false] 4)).grownBy w1 none) (g2 : w1.grownBy w2 none) (v : Value) : w.grownBy (w2.setCell ⟨w.heap.size, 0, none⟩ v) none :=
  grown_of ((below_of (grownBy_trans (grownBy_trans (World.grownBy_alloc w _ none) g1) g2)).setCell (by simp) _)

set_option maxHeartbeats 1000000 in
theorem ff_no (n : Int) (a : Option Addr) (cap : Nat) (ss : List ByteArray) (s : ByteArray) (w : World) (h : StrsAt w a ss) (hn : (premB (ss.map bl) && (inB n 1 6 && isF (bl s))) = false) :
    Calls Tryz.prog 135 #[.int .i64 n, .slice a ss.length cap, .string s] w fun e w' => e = .returned (.bool false) ∧ w.grownBy w' none := by
  have cc := ff_prem a cap ss _ (h.grown (World.grownBy_alloc w (.cells #[.bool false] 4) none))
  have ct := fun w => chain_or n s w
  clear h
  generalize premB (ss.map bl) = p at *
  generalize (inB n 1 6 && isF (bl s)) = q at *
  cases p
  · clear hn
    go_enter Tryz.func135, Tryz.ntmps135
    go_wp2_with fail
    refine cc.mono ?_
    rintro e w1 ⟨v, rfl, hv, g1⟩
    clear cc
    have R1 := (BlkAt.new w #[.bool false] 4).grown g1
    rcases hv with rfl | ⟨B, rfl⟩
    all_goals
      go_wp2_with fail
      refine (ct _).mono ?_
      rintro e w2 ⟨v', hv', rfl, g2⟩
      clear ct
      have R2 := R1.grown g2
      have c0 := R2.cell (i := 0) rfl
      have z0 := R2.frozen 0
      rcases hv' with rfl | ⟨T', p', rfl⟩
      all_goals
        go_wp2_with fail
        refine bodyPost_ret (v := .bool false) ?_ rfl ⟨rfl, res_in g1 g2 _⟩
        have c1 := (R2.set 0 (.bool false)).cell (i := 0) rfl
        simp [results, Tryz.f135, go_sem, c1]
  · cases q
    · clear hn
      go_enter Tryz.func135, Tryz.ntmps135
      go_wp2_with fail
      refine cc.mono ?_
      rintro e w1 ⟨v, rfl, hv, g1⟩
      clear cc
      have R1 := (BlkAt.new w #[.bool false] 4).grown g1
      rcases hv with rfl | ⟨B, rfl⟩
      all_goals
        go_wp2_with fail
        refine (ct _).mono ?_
        rintro e w2 ⟨v', hv', rfl, g2⟩
        clear ct
        have R2 := R1.grown g2
        have c0 := R2.cell (i := 0) rfl
        have z0 := R2.frozen 0
        rcases hv' with rfl | ⟨T', p', rfl⟩
        all_goals
          go_wp2_with fail
          refine bodyPost_ret (v := .bool false) ?_ rfl ⟨rfl, res_in g1 g2 _⟩
          have c1 := (R2.set 0 (.bool false)).cell (i := 0) rfl
          simp [results, Tryz.f135, go_sem, c1]
    · cases hn

/-- What lies before the loop of impl.FollowsFrom. -/
def FfBlk (r q : Nat) (t : Tr) (f : Bool) (W : World) : Prop :=
  BlkAt W r #[.bool f] 4 ∧ BlkAt W q #[.iface (nodeT t) (nodeP t)] 131 ∧ BlkAt W (q + 1) #[.func (.func 196) #[] #[.pointer (some ⟨q, 0, none⟩)]] 167 ∧ q + 1 + 1 + 1 < W.heap.size
theorem FfBlk.grown {r q : Nat} {t : Tr} {f : Bool} {W W' : World} (h : FfBlk r q t f W) (hg : W.grownBy W' none) : FfBlk r q t f W' := ⟨h.1.grown hg, h.2.1.grown hg, h.2.2.1.grown hg, Nat.lt_of_lt_of_le h.2.2.2 hg.size⟩
theorem FfBlk.own {β : Type} (r q : Nat) (t : Tr) (f : Bool) : Own (fun (_ : β) W => FfBlk r q t f W) := Own.and (blk_own _ _ _) (Own.and (blk_own _ _ _) (Own.and (blk_own _ _ _) (fun _ _ _ _ hs hg _ => Nat.lt_of_lt_of_le hs hg.size)))
theorem FfBlk.put {r q : Nat} {t : Tr} {f : Bool} {W : World} (h : FfBlk r q t f W) (hr : r < q) (g : Bool) : FfBlk r q t g (W.setCell ⟨r, 0, none⟩ (.bool g)) :=
  ⟨h.1.set 0 _, h.2.1.other (by show r ≠ q; omega) _, h.2.2.1.other (by show r ≠ q + 1; omega) _, by rw [World.size_setCell]; exact h.2.2.2⟩

set_option maxRecDepth 100000 in
set_option maxHeartbeats 4000000 in
theorem ff_yes (N : Nat) (hN : 1 ≤ N ∧ N ≤ 6) (a : Option Addr) (cap : Nat) (ss : List ByteArray) (s : ByteArray) (w : World) (h : StrsAt w a ss) {ts : List Tr} {t : Tr} (ho : prOf (ss.map bl) = some ts) (ht : fOf (bl s) = some t) :
    Calls Tryz.prog 135 #[.int .i64 N, .slice a ss.length cap, .string s] w fun e w' => e = .returned (.bool (folK N ts t)) ∧ w.grownBy w' none := by
  have cc := prem_yes a cap ss _ (h.grown (World.grownBy_alloc w (.cells #[.bool false] 4) none)) ho
  have ct := fun w => chain_yes s w (inB_t (n := N) (by omega)) ht
  clear h ho ht
  refine (callsIn_wide (n := 5)).1 ?_
  refine callsIn_of_wp_marks Tryz.func135 rfl trivial ?_ rfl
  simp only [Tryz.ntmps135, List.size_toArray, List.length_cons, List.length_nil, Nat.reduceAdd, Nat.reduceSub, Array.replicate_succ, Array.replicate_zero, List.push_toArray, List.append_toArray, List.nil_append, List.cons_append]
  gi_wp2_with (refine ⟨trivial, ?_⟩; gi_at_call 162; refine (callsIn_wide.2 cc).mono ?_; clear cc; rintro e w1 ⟨B, rfl, hP, g1⟩)
  gi_wp2_with (refine ⟨trivial, ?_⟩; gi_at_call 163; refine (callsIn_wide.2 (ct _)).mono ?_; clear ct; rintro e w2 ⟨rfl, g2⟩)
  gi_wp2_with (refine ⟨trivial, ?_⟩; gi_at_call 164; refine (callsIn_wide.2 (truth_box t _)).mono ?_; rintro e w3 ⟨rfl, hbq, g3, s3⟩)
  gi_wp2_with (refine ⟨trivial, ?_⟩; gi_at_call 165; refine (withs_any _ _ trivial rfl _ _ _).mono ?_; rintro e w' ⟨rfl, rfl⟩)
  have c1 := ((BlkAt.new w3 #[.func (.func 196) #[] #[.pointer (some ⟨w2.heap.size, 0, none⟩)]] 167).alloc (.cells #[.int .i64 N] 3)).alloc (.cells #[.func (.func 195) #[] #[.pointer (some ⟨B, 0, none⟩)]] 167)
  have c2 := (BlkAt.new (w3.alloc (.cells #[.func (.func 196) #[] #[.pointer (some ⟨w2.heap.size, 0, none⟩)]] 167)) #[.int .i64 N] 3).alloc (.cells #[.func (.func 195) #[] #[.pointer (some ⟨B, 0, none⟩)]] 167)
  have c3 := BlkAt.new ((w3.alloc (.cells #[.func (.func 196) #[] #[.pointer (some ⟨w2.heap.size, 0, none⟩)]] 167)).alloc (.cells #[.int .i64 N] 3)) #[.func (.func 195) #[] #[.pointer (some ⟨B, 0, none⟩)]] 167
  have hg : w3.grownBy (((w3.alloc (.cells #[.func (.func 196) #[] #[.pointer (some ⟨w2.heap.size, 0, none⟩)]] 167)).alloc (.cells #[.int .i64 N] 3)).alloc (.cells #[.func (.func 195) #[] #[.pointer (some ⟨B, 0, none⟩)]] 167)) none := grownBy_trans (grownBy_trans (World.grownBy_alloc _ _ none) (World.grownBy_alloc _ _ none)) (World.grownBy_alloc _ _ none)
  rw [s3] at c1
  rw [World.size_alloc, s3] at c2
  rw [World.size_alloc, World.size_alloc, s3] at c3
  obtain ⟨W0, hW0⟩ : ∃ W0, (((w3.alloc (.cells #[.func (.func 196) #[] #[.pointer (some ⟨w2.heap.size, 0, none⟩)]] 167)).alloc (.cells #[.int .i64 N] 3)).alloc (.cells #[.func (.func 195) #[] #[.pointer (some ⟨B, 0, none⟩)]] 167)) = W0 := ⟨_, rfl⟩
  rw [hW0] at c1 c2 c3 hg ⊢
  have hsz : W0.heap.size = w2.heap.size + 1 + 1 + 1 + 1 := by rw [← hW0]; simp [s3]
  clear hW0
  have hw1 := g1.size
  have hw2 := g2.size
  simp only [World.size_alloc] at hw1
  have hM : FfBlk w.heap.size w2.heap.size t false W0 := ⟨(((BlkAt.new w #[.bool false] 4).grown g1).grown (grownBy_trans g2 (grownBy_trans g3 hg))), BlkAt.grown (show BlkAt w3 _ _ _ from hbq) hg, c1, by omega⟩
  have hB0 : Below w.heap.size w W0 := below_of (grownBy_trans (grownBy_trans (World.grownBy_alloc w _ none) g1) (grownBy_trans g2 (grownBy_trans g3 hg)))
  have hB1 : Below w1.heap.size w1 W0 := below_of (grownBy_trans g2 (grownBy_trans g3 hg))
  refine wpIn_rangeFunc_ownO rfl (show 1 ≤ 5 from by decide) (gf := 197) (lb := #[.pointer (some ⟨w2.heap.size + 1 + 1, 0, none⟩), .pointer (some ⟨w2.heap.size + 1 + 1 + 1, 0, none⟩)]) rfl trivial (enters_of Tryz.func197 (by kernel_rfl) rfl)
    (with_stops (w2.heap.size + 1 + 1) (w2.heap.size + 1 + 1 + 1) B w1.heap.size N hN ts w1 W0 hP rfl (c2.cell rfl) (c3.cell rfl) hB1 (by omega)) kpW_t (kpW_b (by omega) (by omega) (by omega)) (Below.refl _ _) (fun _ => rfl)
    (fun pre W => (FfBlk w.heap.size w2.heap.size t false W ∧ ∀ x ∈ pre, truK N t x = true) ∧ Below w.heap.size w W)
    (fun c pre W => (FfBlk w.heap.size w2.heap.size t false W ∧ (∃ x, x ∈ pre ∧ truK N t x = false) ∧ c = .ret) ∧ Below w.heap.size w W)
    (OwnFrom.and (Own.from (Own.and (FfBlk.own _ _ _ _) (own_pure _)) _) (ownFrom_below (Nat.le_refl _) (by omega)))
    (fun c => OwnFrom.and (Own.from (Own.and (FfBlk.own _ _ _ _) (own_pure _)) _) (ownFrom_below (Nat.le_refl _) (by omega)))
    ⟨⟨hM, by simp⟩, hB0⟩
    (fun x a' W => ∃ b, w2.heap.size + 1 + 1 + 1 < b ∧ BlkAt W b (set4 N x) 164 ∧ a' = { tmps := #[.int .i64 N, .slice a ss.length cap, .string s, undef, undef, undef, .pointer (some ⟨w.heap.size, 0, none⟩), .func (.func 195) #[] #[.pointer (some ⟨B, 0, none⟩)], .bool true, .iface (nodeT t) (nodeP t), .bool true, .pointer (some ⟨w2.heap.size + 1, 0, none⟩), .pointer (some ⟨b, 0, none⟩), .tuple #[.func (.func 195) #[] #[.pointer (some ⟨B, 0, none⟩)], .bool true], .slice a ss.length cap, .tuple #[.func (.func 195) #[] #[.pointer (some ⟨B, 0, none⟩)], .bool true], .func (.func 195) #[] #[.pointer (some ⟨B, 0, none⟩)], .bool true, .tuple #[.iface (nodeT t) (nodeP t), .bool true], .int .i64 N, .string s, .tuple #[.iface (nodeT t) (nodeP t), .bool true], .iface (nodeT t) (nodeP t), .bool true, .bool true, .bool false, .bool false, .bool true, .bool false, .bool false, .iface (nodeT t) (nodeP t), .func (.func 196) #[] #[.pointer (some ⟨w2.heap.size, 0, none⟩)], .int .i64 N, .func (.func 195) #[] #[.pointer (some ⟨B, 0, none⟩)], .func (.func 197) #[] #[.pointer (some ⟨w2.heap.size + 1 + 1, 0, none⟩), .pointer (some ⟨w2.heap.size + 1 + 1 + 1, 0, none⟩)], .agg #[.int .i64 N, .int .i64 (tA N x), .int .i64 (tB N x), .int .i64 (tC N x)], undef, undef, undef, undef], defers := [] })
    (fun x a' => Own.from (fun s A B row hs hg hr => by obtain ⟨b, h1, h2, h3⟩ := hs; exact ⟨b, h1, blk_own (β := Unit) b _ (fun _ => set4 N x) () A B row h2 hg hr, h3⟩) _) ?assign ?body ?done ?stop
  case assign =>
    rintro l pre x W K ⟨⟨hA, hp⟩, hB⟩ hK
    have lA := hA.2.2.2
    simp only [encK]
    gi_wp2
    exact hK _ _ (KeepsAt.alloc _ _ _) (KpW.grown (by omega) (by omega) (by omega) (World.grownBy_alloc _ _ none)) ⟨⟨hA.grown (World.grownBy_alloc _ _ none), hp⟩, hB.alloc hB.size _⟩ ⟨W.heap.size, lA, BlkAt.new W _ _, rfl⟩
  case body =>
    rintro l pre x a' W hl ⟨r, hr⟩ ⟨⟨hA, hp⟩, hB⟩ ⟨b, hb, hbx, rfl⟩ hlt
    have q0 : W.cell? ⟨w2.heap.size + 1, 0, none⟩ = some (.func (.func 196) #[] #[.pointer (some ⟨w2.heap.size, 0, none⟩)]) := hA.2.2.1.cell rfl
    have t0 : W.cell? ⟨w2.heap.size, 0, none⟩ = some (.iface (nodeT t) (nodeP t)) := hA.2.1.cell rfl
    have x0 : W.cell? ⟨b, 0, none⟩ = some (.int .i64 N) := hbx.cell rfl
    have x1 : W.cell? ⟨b, 1, none⟩ = some (.int .i64 (tA N x)) := hbx.cell rfl
    have x2 : W.cell? ⟨b, 2, none⟩ = some (.int .i64 (tB N x)) := hbx.cell rfl
    have x3 : W.cell? ⟨b, 3, none⟩ = some (.int .i64 (tC N x)) := hbx.cell rfl
    have lb := hbx.lt
    have cq := tru1_any N hN x t w2.heap.size W t0
    have hd : 1 ≤ 5 - 1 - 1 := by decide
    clear t0
    cases hv : truK N t x
    · rw [hv] at cq
      gi_wp2_with (refine ⟨trivial, ?_⟩; gi_at_call 196; refine (CallsIn.inRound l (callsIn_wide.2 cq)).mono ?_; rintro e w' ⟨rfl, gx⟩; have hA' := hA.grown gx; have r0 : w'.cell? ⟨w.heap.size, 0, none⟩ = some (.bool false) := hA'.1.cell rfl; have z0 := hA'.1.frozen 0)
      exact ⟨(KeepsAt.grown gx).trans (KeepsAt.setCell _ (by omega) _), ⟨hA'.put (by omega) false, ⟨x, by simp, hv⟩, rfl⟩, hB.trans (((below_of gx).mono hB.size).setCell (by simp) _)⟩
    · rw [hv] at cq
      gi_wp2_with (refine ⟨trivial, ?_⟩; gi_at_call 196; refine (CallsIn.inRound l (callsIn_wide.2 cq)).mono ?_; rintro e w' ⟨rfl, gx⟩)
      exact ⟨KeepsAt.grown gx, KpW.grown (by omega) (by omega) (by omega) gx, ⟨hA.grown gx, fun y hy => (List.mem_append.1 hy).elim (hp y) (fun e => by simp at e; rw [e]; exact hv)⟩, hB.trans ((below_of gx).mono hB.size)⟩
  case done =>
    rintro D ys W hD rfl ⟨⟨hA, hp⟩, hB⟩ hK
    have hs : folK N ts t = true := folK_mk fun k hk ha => hp k (List.mem_filter.2 ⟨List.mem_range.2 hk, ha⟩)
    have r0 : W.cell? ⟨w.heap.size, 0, none⟩ = some (.bool false) := hA.1.cell rfl
    have z0 := hA.1.frozen 0
    gi_wp2
    have hK' := (KeepsOthers.setCell W ⟨w.heap.size, 0, none⟩ (.bool true)).same D _ hK rfl
    refine ⟨by simp, .inl ⟨_, _, rfl, run_takeDeferred hK', ?_⟩⟩
    have c0 := cell_kept ((hA.put (by omega) true).1.cell (i := 0) rfl) (grownBy_putObj' _ D (.deferred none)) (fun r e => by cases e; exact ⟨_, hK', rfl⟩)
    refine ⟨.bool true, ?_, by first | rfl | rw [hs], grown_of ((hB.setCell (p := ⟨w.heap.size, 0, none⟩) (by simp) _).trans (belowK_b (w := w) (Nat.le_refl _) _ D _ _ (by omega) hK' rfl rfl))⟩
    simp [results, Tryz.f135, go_sem, c0]
  case stop =>
    rintro D c pre W hD ⟨k, hk, ha, rfl⟩ ⟨⟨hA, ⟨x, hx, hv⟩, rfl⟩, hB⟩ hK
    rw [List.mem_filter, List.mem_range] at hx
    have hs : folK N ts t = false := folK_no (by omega) hx.2 hv
    gi_wp2
    refine ⟨by simp, .inl ⟨_, _, rfl, run_takeDeferred hK, ?_⟩⟩
    have c0 := cell_kept (hA.1.cell (i := 0) rfl) (grownBy_putObj' _ D (.deferred none)) (fun r e => by cases e; exact ⟨_, hK, rfl⟩)
    refine ⟨.bool false, ?_, by first | rfl | rw [hs], grown_of (hB.trans (belowK_b (w := w) (Nat.le_refl _) _ D _ _ (by omega) hK rfl rfl))⟩
    simp [results, Tryz.f135, go_sem, c0]

theorem ff_any (n : Int) (a : Option Addr) (cap : Nat) (ss : List ByteArray) (s : ByteArray) (w : World) (h : StrsAt w a ss) :
    Calls Tryz.prog 135 #[.int .i64 n, .slice a ss.length cap, .string s] w fun e w' => e = .returned (.bool (folI n (ss.map bl) (bl s))) ∧ w.grownBy w' none := by
  cases ho : prOf (ss.map bl) with
  | none => rw [folI_p ho]; exact ff_no n a cap ss s w h (by rw [premB_f ho]; rfl)
  | some ts =>
    cases hi : inB n 1 6
    · rw [folI_o hi]; exact ff_no n a cap ss s w h (by rw [hi]; simp)
    · cases hf : fOf (bl s) with
      | none => rw [folI_n hf]; exact ff_no n a cap ss s w h (by rw [isF_f hf]; simp)
      | some t =>
        obtain ⟨N, rfl, hN⟩ := nat_of hi
        rw [folI_t ho hf hi]
        exact ff_yes N hN a cap ss s w h ho hf

end Go.Proofs.YtlnffpofbfigaaaGreatDoor

/-
  A pair, a desk, a deed that came in, opened to their cells. No function is named.
-/
namespace Go.Proofs.YtlnffpofbfigaaaGreatDoor
open Go.RowKit Go.ChangeShapes Go.WideShapes Go.Deep Go.Joins

section
variable {H : Type} {enc : TypeId × Value → H} {P : Program} {w : World} {base : Nat} {spare : Nat → Bool} {held : Bool}
/-- What a struct of a number and a text must be. -/
structure PairT (P : Program) (t : TypeId) (f0 f1 : Field) : Prop where
  str : P.underlying t = some (.struct #[f0, f1])
  o0 : f0.offset = 0
  o1 : f1.offset = 1
  c0 : P.cellsOf f0.type = 1
  c1 : P.cellsOf f1.type = 1
  ct : P.cellsOf t = 2
  i0 : P.underlying f0.type = some (.int .i64)
  i1 : P.underlying f1.type = some .string
theorem PairT.read {t : TypeId} {f0 f1 : Field} (T : PairT P t f0 f1) {fuel : Nat} {u v : Value} {x : DataW H × List MemPlace} (h : DataW.trod enc P w base spare held fuel t [u, v] = some x) : ∃ (n : Int) (s : ByteArray), u = .int .i64 n ∧ v = .string s ∧ (Lit.int .i64 n).wf = true ∧ s.size ≤ maxLen := by
  obtain ⟨xs, n, _, _, _, hl, hf⟩ := DataW.trod_struct T.str h
  have a := hf 0 f0 rfl
  have b := hf 1 f1 rfl
  rw [T.o0, T.c0] at a
  rw [T.o1, T.c1] at b
  obtain ⟨y0, y1, rfl⟩ : ∃ y0 y1, xs = [y0, y1] := by
    match xs, hl with
    | [y0, y1], _ => exact ⟨y0, y1, rfl⟩
  obtain ⟨k, e0, _, hk⟩ := DataW.trod_int (x := y0) T.i0 (by simpa using a)
  obtain ⟨s, e1, _, hs⟩ := DataW.trod_string (x := y1) T.i1 (by simpa using b)
  simp at e0 e1
  exact ⟨k, s, e0, e1, hk, hs⟩
theorem open_pair {r : Reach} {b0 : Nat} {t : TypeId} {f0 f1 : Field} (T : PairT P t f0 f1) {v : Value} {d : DataW H} {p : List MemPlace} (hv : Value.okWide P w r b0 t v) (h : DataW.Trod enc P w base spare held t v d p) :
    ∃ (n : Int) (s : ByteArray), v = .agg #[.int .i64 n, .string s] ∧ (Lit.int .i64 n).wf = true ∧ s.size ≤ maxLen := by
  obtain ⟨cs, rfl, hc⟩ := okWide_struct T.str hv
  obtain ⟨u, x, rfl⟩ : ∃ u x, cs = #[u, x] := by
    rw [T.ct] at hc
    match cs, hc with
    | ⟨[u, x]⟩, _ => exact ⟨u, x, rfl⟩
  obtain ⟨fuel, hf⟩ := h
  obtain ⟨n, s, rfl, rfl, h1, h2⟩ := T.read hf
  exact ⟨n, s, rfl, h1, h2⟩
theorem lds_of {a : Addr} {len : Nat} (hm : len ≤ maxLen) (h : ∀ i, i < len → ∃ (n : Int) (s : ByteArray), w.cell? (a.add (i * 2)) = some (.int .i64 n) ∧ w.cell? (a.add (i * 2 + 1)) = some (.string s) ∧ s.size ≤ maxLen) :
    ∃ xs : List Ld, xs.length = len ∧ LdsAt w (some a) xs ∧ ∀ x ∈ xs, x.2.length ≤ maxLen := by
  by_cases h0 : len = 0
  · subst h0
    exact ⟨[], rfl, LdsAt.nil _ _, by simp⟩
  obtain ⟨b, off, spot⟩ := a
  have hsp : spot = none := by
    obtain ⟨n, s, c0, _⟩ := h 0 (by omega)
    simpa [Addr.add] using World.cell?_spot c0
  subst hsp
  have h' : ∀ i, i < len → ∃ (n : Int) (s : ByteArray), w.cell? ⟨b, off + i * 2, none⟩ = some (.int .i64 n) ∧ w.cell? ⟨b, off + i * 2 + 1, none⟩ = some (.string s) ∧ s.size ≤ maxLen := by
    intro i hi
    obtain ⟨n, s, c0, c1, hs⟩ := h i hi
    rw [add_none] at c0 c1
    exact ⟨n, s, c0, by rw [Nat.add_assoc]; exact c1, hs⟩
  have hch : ∃ f : Nat → Ld, ∀ i, i < len → w.cell? ⟨b, off + i * 2, none⟩ = some (.int .i64 (f i).1) ∧ w.cell? ⟨b, off + i * 2 + 1, none⟩ = some (.string (bs (f i).2)) ∧ (f i).2.length ≤ maxLen := by
    refine ⟨fun i => if hi : i < len then ((h' i hi).choose, bl (h' i hi).choose_spec.choose) else nilLd, fun i hi => ?_⟩
    have q := (h' i hi).choose_spec.choose_spec
    simp only [dif_pos hi]
    refine ⟨q.1, q.2.1, ?_⟩
    show (bl _).length ≤ maxLen
    rw [← bl_size]; exact q.2.2
  obtain ⟨f, hf⟩ := hch
  have hg : ∀ i, i < len → ((List.range len).map f).getD i nilLd = f i := fun i hi => by simp [List.getD_eq_getElem?_getD, hi]
  refine ⟨(List.range len).map f, by simp, ⟨by simpa using hm, .inr ⟨b, off, rfl, ?_, fun i hi => ?_⟩⟩, fun x hx => ?_⟩
  · have := (hf 0 (by omega)).1
    exact World.block_lt_of_cell? w _ this
  · have hi' : i < len := by simpa using hi
    rw [hg i hi']
    exact ⟨(hf i hi').1, (hf i hi').2.1⟩
  · obtain ⟨i, hi, rfl⟩ := List.mem_map.1 hx
    exact (hf i (List.mem_range.1 hi)).2.2
theorem open_pairs {t e : TypeId} {f0 f1 : Field} (T : PairT P e f0 f1) (ht : P.underlying t = some (.slice e)) {fuel : Nat} {c : Value} {x : DataW H × List MemPlace} (h : DataW.trod enc P w base spare held fuel t [c] = some x) :
    ∃ (a : Option Addr) (cap : Nat) (xs : List Ld), c = .slice a xs.length cap ∧ LdsAt w a xs ∧ (a = none → cap = 0) ∧ ∀ x ∈ xs, x.2.length ≤ maxLen := by
  rcases open_slice ht h with ⟨h0, _⟩ | ⟨a, len, cap, m, n, D, Pl, hcs, _, hl, hm, hmm, _, hi⟩
  · simp at h0
    exact ⟨none, 0, [], by rw [h0]; rfl, LdsAt.nil _ _, fun _ => rfl, by simp⟩
  · simp at hcs
    have hlm : len ≤ m := by rw [hmm]; split <;> omega
    have hc : ∀ i, i < len → ∃ (n : Int) (s : ByteArray), w.cell? (a.add (i * 2)) = some (.int .i64 n) ∧ w.cell? (a.add (i * 2 + 1)) = some (.string s) ∧ s.size ≤ maxLen := by
      intro i hil
      obtain ⟨cs', hcc, hts⟩ := hi i (by omega)
      rw [T.ct] at hcc
      obtain ⟨_, hcl, hat⟩ := World.cells?_some hcc
      obtain ⟨u, v, rfl⟩ : ∃ u v, cs' = [u, v] := by
        match cs', hcl with
        | [u, v], _ => exact ⟨u, v, rfl⟩
      obtain ⟨k, s, rfl, rfl, _, hs⟩ := T.read hts
      have q0 := hat 0 (by omega)
      have q1 := hat 1 (by omega)
      refine ⟨k, s, by rw [add_add] at q0; simpa using q0, by rw [add_add] at q1; simpa using q1, hs⟩
    obtain ⟨xs, rfl, hx, hz⟩ := lds_of (by omega) hc
    exact ⟨some a, cap, xs, hcs, hx, (by simp), hz⟩
theorem open_desk {r : Reach} {b0 : Nat} {t tl ts e : TypeId} {g0 g1 f0 f1 f2 f3 : Field} (hs : P.underlying t = some (.struct #[g0, g1])) (o0 : g0.offset = 0) (o1 : g1.offset = 2) (e0 : g0.type = tl) (e1 : g1.type = ts) (T : PairT P tl f0 f1) (ht : P.underlying ts = some (.slice e)) (E : PairT P e f2 f3) (c1 : P.cellsOf ts = 1) (ct : P.cellsOf t = 3)
    {v : Value} {d : DataW H} {p : List MemPlace} (hv : Value.okWide P w r b0 t v) (h : DataW.Trod enc P w base spare held t v d p) :
    ∃ (n : Int) (s : ByteArray) (a : Option Addr) (cap : Nat) (xs : List Ld), v = .agg #[.int .i64 n, .string s, .slice a xs.length cap] ∧ s.size ≤ maxLen ∧ LdsAt w a xs ∧ (a = none → cap = 0) ∧ ∀ x ∈ xs, x.2.length ≤ maxLen := by
  obtain ⟨cs, rfl, hc⟩ := okWide_struct hs hv
  obtain ⟨u, x, y, rfl⟩ : ∃ u x y, cs = #[u, x, y] := by
    rw [ct] at hc
    match cs, hc with
    | ⟨[u, x, y]⟩, _ => exact ⟨u, x, y, rfl⟩
  obtain ⟨fuel, hf⟩ := h
  obtain ⟨zs, n, _, _, _, hl, hg⟩ := DataW.trod_struct hs hf
  have q0 := hg 0 g0 rfl
  have q1 := hg 1 g1 rfl
  rw [o0, e0, T.ct] at q0
  rw [o1, e1, c1] at q1
  obtain ⟨z0, z1, rfl⟩ : ∃ z0 z1, zs = [z0, z1] := by
    match zs, hl with
    | [z0, z1], _ => exact ⟨z0, z1, rfl⟩
  obtain ⟨k, s, rfl, rfl, _, hs'⟩ := T.read (x := z0) (by simpa [Value.cells] using q0)
  obtain ⟨a, cap, xs, rfl, hx, h0, hz⟩ := open_pairs E ht (x := z1) (by simpa [Value.cells] using q1)
  exact ⟨k, s, a, cap, xs, rfl, hs', hx, h0, hz⟩
end

end Go.Proofs.YtlnffpofbfigaaaGreatDoor

/-
  The exact laws of LaidOk and DeskNew: copies of pairs, desks without anything of before.
-/
namespace Go.Proofs.YtlnffpofbfigaaaGreatDoor
open Go.RowKit

theorem szLaid_any (n left : Int) (s : ByteArray) (w : World) (hl : 0 ≤ left ∧ left ≤ 1048576) (hs : s.size ≤ maxLen) :
    Calls Tryz.prog 81 #[.agg #[.int .i64 n, .string s], .int .i64 left] w fun e w' => e = .returned (.int .i64 (if (s.size : Int) ≤ left then left - s.size else -1)) ∧ w.grownBy w' none := by
  have hg := World.grownBy_alloc w (.cells #[.int .i64 n, .string s] 54) none
  unfold maxLen at hs
  have hw : IntKind.i64.wrap (left - (s.size : Int)) = left - (s.size : Int) := IntWalk.i64_in _ (by omega)
  have hw2 : wrap64 (left - (s.size : Int)) = left - (s.size : Int) := by unfold wrap64; omega
  by_cases h : (s.size : Int) ≤ left
  · rw [if_pos h]
    go_enter Tryz.func81, Tryz.ntmps81
    go_wp2
    go_ret
    exact ⟨rfl, hg⟩
  · rw [if_neg h]
    go_enter Tryz.func81, Tryz.ntmps81
    go_wp2
    go_ret
    exact ⟨rfl, hg⟩

set_option maxHeartbeats 1000000 in
theorem toLaid_any (n : Int) (s : ByteArray) (w : World) :
    Calls Tryz.prog 83 #[.agg #[.int .i64 n, .string s]] w fun e w' => e = .returned (.agg #[.int .i64 n, .string s]) ∧ w.grownBy w' none := by
  go_enter Tryz.func83, Tryz.ntmps83
  go_wp2
  exact bodyPost_ret (v := .agg #[.int .i64 n, .string s]) (resLd1 rfl _ rfl ((CellsAt.second w _ _ _).grown (World.grownBy_alloc _ _ none))) rfl ⟨rfl, made3 _ _ _ _⟩

end Go.Proofs.YtlnffpofbfigaaaGreatDoor

/-
  Copies of desks that came in: the laws' szDesk, toDesk; the exact law of DeskOk.
-/
namespace Go.Proofs.YtlnffpofbfigaaaGreatDoor
open Go.RowKit

/-! A row of pairs that was handed in, and its copy. -/
def SzLd (xs : List Ld) (w : World) (i left : Value) (wr : World) : Prop := ∃ (k : Nat) (l : Int), k ≤ xs.length ∧ i = .int .i64 k ∧ left = .int .i64 l ∧ 0 ≤ l ∧ l ≤ 1048576 ∧ w.grownBy wr none
/-- What szLaidS answers with: something below 0, or a number and few pairs. -/
def SzPost (xs : List Ld) (w : World) (e : Ending) (w' : World) : Prop := ∃ v : Int, e = .returned (.int .i64 v) ∧ (v < 0 ∨ (0 ≤ v ∧ v ≤ 1048576 ∧ xs.length ≤ 1048576)) ∧ w.grownBy w' none

set_option maxRecDepth 8000 in
set_option maxHeartbeats 2000000 in
theorem szLaidS_any (left : Int) (a : Option Addr) (cap : Nat) (xs : List Ld) (w : World) (hl : 0 ≤ left ∧ left ≤ 1048576) (h : LdsAt w a xs) (hz : ∀ x ∈ xs, x.2.length ≤ maxLen) :
    Calls Tryz.prog 82 #[.slice a xs.length cap, .int .i64 left] w (SzPost xs w) := by
  have hm := h.1
  unfold maxLen at hm
  have hw2 : wrap64 (left - (xs.length : Int)) = left - (xs.length : Int) := by unfold wrap64; omega
  have H := Lib.hid h
  have HZ := Lib.hid hz
  clear h hz
  by_cases hle : (xs.length : Int) ≤ left
  · go_enter Tryz.func82, Tryz.ntmps82
    have hp : 0 ≤ left - (xs.length : Int) := by omega
    go_wp2
    go_loopw [1, 5] (fun l i wr => SzLd xs w i l wr) (fun _ i _ => xs.length - (intOf i).toNat)
    case atStart => exact ⟨0, left - xs.length, by omega, rfl, rfl, by omega, by omega, grownBy_refl _ _⟩
    case round =>
      obtain ⟨k, l, hk, rfl, rfl, hl0, hl1, hgr⟩ := hrel
      by_cases hlt : k < xs.length
      · have hx2 := H.out.grown hgr
        rcases hx2.2 with h0 | ⟨bx, ox, rfl, hbx, hcx⟩
        · rw [h0] at hlt; simp at hlt
        obtain ⟨c0, c1⟩ := hcx k hlt
        have hzk : (xs.getD k nilLd).2.length ≤ maxLen := HZ.out _ (getLd_mem hlt)
        clear hx2 hcx hbx
        generalize xs.getD k nilLd = q at *
        have cs := fun w => szLaid_any q.1 l (bs q.2) w ⟨hl0, hl1⟩ (by rw [bs_size]; exact hzk)
        have Hgr := Lib.hid hgr
        clear hgr
        by_cases hq : ((bs q.2).size : Int) ≤ l
        · simp only [if_pos hq] at cs
          have hq0 : 0 ≤ l - ((bs q.2).size : Int) := by omega
          go_wp2_with (first | (go_at_call 81; refine (cs _).mono ?_; rintro e w' ⟨rfl, hg⟩))
          go_roundw
          case rel => exact ⟨k + 1, l - ((bs q.2).size : Int), by omega, by go_num, rfl, hq0, by omega, grownBy_trans Hgr.out hg⟩
          case measure => simp [intOf]; omega
        · simp only [if_neg hq] at cs
          go_wp2_with (first | (go_at_call 81; refine (cs _).mono ?_; rintro e w' ⟨rfl, hg⟩))
          go_ret
          exact ⟨_, rfl, .inl (by decide), grownBy_trans Hgr.out hg⟩
      · obtain rfl : k = xs.length := by omega
        have Hgr := Lib.hid hgr
        clear hgr
        go_wp2
        go_ret
        exact ⟨l, rfl, .inr ⟨hl0, hl1, by omega⟩, Hgr.out⟩
  · go_enter Tryz.func82, Tryz.ntmps82
    go_wp2
    go_ret
    exact ⟨_, rfl, .inl (by omega), grownBy_refl _ _⟩

def CpLd (g : Nat) (xs : List Ld) (w : World) (i : Value) (wr : World) : Prop :=
  ∃ (k : Nat) (vs : List Value), k ≤ xs.length ∧ i = .int .i64 k ∧ wr.ownsRow w.heap.size 29 2 (.slice (some ⟨g, 0, none⟩) xs.length xs.length) xs.length vs ∧ (∀ j, j < k → vs[j * 2]? = some (.int .i64 (xs.getD j nilLd).1) ∧ vs[j * 2 + 1]? = some (.string (bs (xs.getD j nilLd).2))) ∧ w.grownBy wr none
theorem own2_copied {g : Nat} {xs : List Ld} {w wr : World} {vs : List Value} (h : wr.ownsRow w.heap.size 29 2 (.slice (some ⟨g, 0, none⟩) xs.length xs.length) xs.length vs) (hx : ∀ j, j < xs.length → vs[j * 2]? = some (.int .i64 (xs.getD j nilLd).1) ∧ vs[j * 2 + 1]? = some (.string (bs (xs.getD j nilLd).2))) : Own2 wr w.heap.size (some ⟨g, 0, none⟩) xs.length xs := by
  have e : vs = ldC xs := by
    apply List.ext_getElem?
    intro j
    by_cases hj : j < xs.length * 2
    · have hk : j / 2 < xs.length := by omega
      have k1 := hx _ hk
      have k2 := ldC_at xs _ hk
      rcases Nat.mod_two_eq_zero_or_one j with q | q
      · rw [show j = j / 2 * 2 by omega, k1.1, k2.1]
      · rw [show j = j / 2 * 2 + 1 by omega, k1.2, k2.2]
    · rw [List.getElem?_eq_none (by rw [h.1]; omega), List.getElem?_eq_none (by rw [ldC_len]; omega)]
  unfold Own2
  rw [← e]
  exact h

set_option maxRecDepth 8000 in
set_option maxHeartbeats 2000000 in
theorem toLaidS_any (a : Option Addr) (cap : Nat) (xs : List Ld) (hn : xs.length ≤ 100000000) (w : World) (h : LdsAt w a xs) :
    Calls Tryz.prog 84 #[.slice a xs.length cap] w (LdsPost xs w) := by
  obtain ⟨i0, hi, hz0, hz1, hz2⟩ := info_parts infoLd
  have Hh := Lib.hid h
  clear h
  go_enter Tryz.func84, Tryz.ntmps84
  go_wp2_with (at_make; refine wpList_make_full _ rfl _ _ 30 rfl w.heap.size 29 i0 (.agg #[.int .i64 0, .string ⟨#[]⟩]) 2 Tryz.underlying30 hi hz0 hz1 .i64 .i64 _ _ xs.length rfl rfl rfl rfl ?b2 ?b3 (Nat.le_refl _) ?_)
  case b2 => rw [hz2]; omega
  case b3 => unfold maxLen; omega
  intro w0 hown0 hgrow0
  go_wp2
  go_loopw [4] (fun i wr => CpLd w.heap.size xs w i wr) (fun i _ => xs.length - (intOf i).toNat)
  case atStart => exact ⟨0, _, by omega, rfl, hown0, fun j hj => absurd hj (by omega), hgrow0⟩
  case round =>
    obtain ⟨k, vs, hk, rfl, hown, hxs, hgr⟩ := hrel
    by_cases hlt : k < xs.length
    · have hx2 := Hh.out.grown hgr
      rcases hx2.2 with h0 | ⟨bx, ox, rfl, hbx, hcx⟩
      · rw [h0] at hlt; simp at hlt
      obtain ⟨c0, c1⟩ := hcx k hlt
      have ct := fun w => toLaid_any (xs.getD k nilLd).1 (bs (xs.getD k nilLd).2) w
      have hxl := hown.1
      have HO := Lib.hid hown
      have HG := Lib.hid hgr
      have hnew : Hid (∀ (n : Int) (t : ByteArray), n = (xs.getD k nilLd).1 → t = bs (xs.getD k nilLd).2 → ∀ j, j < k + 1 → ((vs.set (k * 2) (.int .i64 n)).set (k * 2 + 1) (.string t))[j * 2]? = some (.int .i64 (xs.getD j nilLd).1) ∧ ((vs.set (k * 2) (.int .i64 n)).set (k * 2 + 1) (.string t))[j * 2 + 1]? = some (.string (bs (xs.getD j nilLd).2))) := by
        rintro n t rfl rfl j hj
        by_cases e : j = k
        · subst e
          refine ⟨?_, ?_⟩
          · rw [List.getElem?_set_ne (by omega), List.getElem?_set_self (by omega)]
          · rw [List.getElem?_set_self (by rw [List.length_set]; omega)]
        · refine ⟨?_, ?_⟩
          · rw [List.getElem?_set_ne (by omega), List.getElem?_set_ne (by omega)]; exact (hxs j (by omega)).1
          · rw [List.getElem?_set_ne (by omega), List.getElem?_set_ne (by omega)]; exact (hxs j (by omega)).2
      have hnw := Lib.hid (hnew.out _ _ rfl rfl)
      clear hown hgr hx2 hcx hbx hxs hnew
      generalize (xs.getD k nilLd).1 = n at *
      generalize bs (xs.getD k nilLd).2 = t at *
      go_wp2_with (first | (go_at_call 83; refine (ct _).mono ?_; rintro e w2 ⟨rfl, hg⟩; have ho2 := HO.out.kept hg (by simp [Value.ownBlock]); have hst := Lib.hid (World.ownsRow.stored ho2 (k * 2) (.int .i64 n)); have hsu := Lib.hid (World.ownsRow.stored hst.out.1 (k * 2 + 1) (.string t)); have hgg := Lib.hid (grow_own2 (grow_own2 (grownBy_trans HG.out hg) ho2 (Nat.le_refl _) hst.out.2) hst.out.1 (Nat.le_refl _) hsu.out.2); have f0 := World.ownsRow.frozenAt ho2 (k * 2); have f1 := World.ownsRow.frozenAt ho2 (k * 2 + 1); have e0 := World.ownsRow.cellAt ho2 (k * 2) (by omega); have e1 := World.ownsRow.cellAt ho2 (k * 2 + 1) (by omega); rw [List.getElem?_eq_getElem (by omega)] at e0 e1; clear ho2))
      go_roundw
      case rel => exact ⟨k + 1, _, by omega, by go_num, hsu.out.1, hnw.out, hgg.out⟩
      case measure => simp [intOf]; omega
    · obtain rfl : k = xs.length := by omega
      have hs := Lib.hid (own2_copied hown hxs)
      have Hg := Lib.hid hgr
      clear hown hxs hgr
      go_wp2
      go_ret
      exact ⟨_, _, rfl, hs.out, Hg.out⟩

end Go.Proofs.YtlnffpofbfigaaaGreatDoor

/-
  Copies of desks that came in, and desks that are equal; the exact law of DeskOk.
-/
namespace Go.Proofs.YtlnffpofbfigaaaGreatDoor
open Go.RowKit

set_option maxHeartbeats 1000000 in
theorem eqLaid_yes (n : Int) (t : ByteArray) (w : World) :
    Calls Tryz.prog 85 #[.agg #[.int .i64 n, .string t], .agg #[.int .i64 n, .string t]] w fun e w' => e = .returned (.bool true) ∧ w.grownBy w' none := by
  go_enter Tryz.func85, Tryz.ntmps85
  go_wp2
  go_ret
  exact ⟨rfl, grownBy_trans (World.grownBy_alloc _ _ none) (World.grownBy_alloc _ _ none)⟩

def EqRel (xs : List Ld) (w : World) (i : Value) (wr : World) : Prop := ∃ k : Nat, k ≤ xs.length ∧ i = .int .i64 k ∧ w.grownBy wr none
set_option maxRecDepth 8000 in
set_option maxHeartbeats 2000000 in
theorem eqLaidS_yes (a b : Option Addr) (ca cb : Nat) (xs : List Ld) (w : World) (hx : LdsAt w a xs) (hy : LdsAt w b xs) :
    Calls Tryz.prog 86 #[.slice a xs.length ca, .slice b xs.length cb] w fun e w' => e = .returned (.bool true) ∧ w.grownBy w' none := by
  have hm := hx.1
  unfold maxLen at hm
  have HX := Lib.hid hx
  have HY := Lib.hid hy
  clear hx hy
  go_enter Tryz.func86, Tryz.ntmps86
  go_wp2
  go_loopw [5] (fun i wr => EqRel xs w i wr) (fun i _ => xs.length - (intOf i).toNat)
  case atStart => exact ⟨0, by omega, rfl, grownBy_refl _ _⟩
  case round =>
    obtain ⟨k, hk, rfl, hgr⟩ := hrel
    have Hgr := Lib.hid hgr
    clear hgr
    by_cases hlt : k < xs.length
    · rcases (HX.out.grown Hgr.out).2 with h0 | ⟨bx, ox, rfl, _, hcx⟩
      · rw [h0] at hlt; simp at hlt
      rcases (HY.out.grown Hgr.out).2 with h0 | ⟨by', oy, rfl, _, hcy⟩
      · rw [h0] at hlt; simp at hlt
      obtain ⟨x0, x1⟩ := hcx k hlt
      obtain ⟨y0, y1⟩ := hcy k hlt
      clear hcx hcy
      generalize xs.getD k nilLd = q at *
      go_wp2_with fail
      go_region_with (go_at_call 85; refine (eqLaid_yes _ _ _).mono ?_; rintro e w' ⟨rfl, hg⟩)
      all_goals go_wp2_with fail
      all_goals go_roundw
      all_goals first | (simp [intOf]; omega) | exact ⟨k + 1, by omega, by go_num, grownBy_trans Hgr.out (drew_grown hg)⟩ | exact ⟨k + 1, by omega, by go_num, grownBy_trans Hgr.out (grownBy_trans (grownBy_drewN (grownBy_refl _ _) _) hg)⟩
    · obtain rfl : k = xs.length := by omega
      go_wp2
      go_ret
      exact ⟨rfl, Hgr.out⟩

/-! Whole desks. -/
set_option maxRecDepth 8000 in
set_option maxHeartbeats 2000000 in
theorem szDesk_any (n : Int) (s : ByteArray) (a : Option Addr) (cap : Nat) (xs : List Ld) (w : World) (h : LdsAt w a xs) (hs : s.size ≤ maxLen) (hz : ∀ x ∈ xs, x.2.length ≤ maxLen) :
    Calls Tryz.prog 28 #[.agg #[.int .i64 n, .string s, .slice a xs.length cap], .int .i64 1048576] w (SzPost xs w) := by
  have g0 := World.grownBy_alloc w (.cells #[.int .i64 n, .string s, .slice a xs.length cap] 57) none
  have HB := Lib.hid (CellsAt.new w #[.int .i64 n, .string s, .slice a xs.length cap] 57)
  have cl := fun w1 (hg : World.grownBy _ w1 none) (l : Int) (hl : 0 ≤ l ∧ l ≤ 1048576) => szLaidS_any l a cap xs w1 hl ((h.grown g0).grown hg) hz
  have cs := fun w => szLaid_any n 1048576 s w (by omega) hs
  have G0 := Lib.hid g0
  clear h hz g0
  by_cases hq : (s.size : Int) ≤ 1048576
  · simp only [if_pos hq] at cs
    have hq0 : 0 ≤ 1048576 - (s.size : Int) := by omega
    go_enter Tryz.func28, Tryz.ntmps28
    go_wp2_with (first | (go_at_call 81; refine (cs _).mono ?_; rintro e w1 ⟨rfl, hg⟩; obtain ⟨b0, b1, b2⟩ := (HB.out.grown hg).three))
    refine (cl _ hg _ ⟨hq0, by omega⟩).mono ?_
    rintro e w2 ⟨v, rfl, hv, hg2⟩
    by_cases hneg : v < 0
    · go_wp2_with fail
      go_ret
      exact ⟨_, rfl, .inl (by decide), grownBy_trans G0.out (grownBy_trans hg hg2)⟩
    · have hv' : 0 ≤ v ∧ v ≤ 1048576 ∧ xs.length ≤ 1048576 := by
        rcases hv with q | q
        · exact absurd q hneg
        · exact q
      have HV := Lib.hid hv'
      clear hv hv'
      go_wp2_with fail
      go_ret
      exact ⟨_, rfl, .inr HV.out, grownBy_trans G0.out (grownBy_trans hg hg2)⟩
  · simp only [if_neg hq] at cs
    go_enter Tryz.func28, Tryz.ntmps28
    go_wp2_with (first | (go_at_call 81; refine (cs _).mono ?_; rintro e w1 ⟨rfl, hg⟩; obtain ⟨b0, b1, b2⟩ := (HB.out.grown hg).three))
    go_ret
    exact ⟨_, rfl, .inl (by decide), grownBy_trans G0.out hg⟩

set_option maxRecDepth 8000 in
set_option maxHeartbeats 2000000 in
theorem eqDesk_yes (n : Int) (s : ByteArray) (a b : Option Addr) (ca cb : Nat) (xs : List Ld) (w : World) (hx : LdsAt w a xs) (hy : LdsAt w b xs) :
    Calls Tryz.prog 30 #[.agg #[.int .i64 n, .string s, .slice a xs.length ca], .agg #[.int .i64 n, .string s, .slice b xs.length cb]] w fun e w' => e = .returned (.bool true) ∧ w.grownBy w' none := by
  have g2 : w.grownBy ((w.alloc (.cells #[.int .i64 n, .string s, .slice a xs.length ca] 32)).alloc (.cells #[.int .i64 n, .string s, .slice b xs.length cb] 32)) none := grownBy_trans (World.grownBy_alloc _ _ none) (World.grownBy_alloc _ _ none)
  have HB := Lib.hid (fun w' (hg : World.grownBy _ w' none) => two_desks (w := w) (A := #[.int .i64 n, .string s, .slice a xs.length ca]) (B := #[.int .i64 n, .string s, .slice b xs.length cb]) (T := 32) (U := 32) hg)
  have cl := fun w' (hg : World.grownBy _ w' none) => eqLaidS_yes a b ca cb xs w' ((hx.grown g2).grown hg) ((hy.grown g2).grown hg)
  have G2 := Lib.hid g2
  clear hx hy g2
  go_enter Tryz.func30, Tryz.ntmps30
  go_wp2_with (first | (go_at_call 85; refine (eqLaid_yes _ _ _).mono ?_; rintro e w1 ⟨rfl, hg⟩; obtain ⟨b0, b1, b2⟩ := (HB.out _ hg).1.three; obtain ⟨c0, c1, c2⟩ := (HB.out _ hg).2.three) | (go_at_call 86; refine (cl _ hg).mono ?_; rintro e w2 ⟨rfl, hg2⟩))
  go_ret
  exact ⟨rfl, grownBy_trans G2.out (grownBy_trans hg hg2)⟩

def T3 (W : World) (h : Nat) (A B C : Array Value) : Prop := CellsAt W h A 57 ∧ CellsAt W (h + 1) B 32 ∧ CellsAt W (h + 1 + 1) C 32
theorem T3.grown {W W' : World} {h : Nat} {A B C : Array Value} (k : T3 W h A B C) (hg : W.grownBy W' none) : T3 W' h A B C := ⟨k.1.grown hg, k.2.1.grown hg, k.2.2.grown hg⟩
theorem T3.set {W : World} {h : Nat} {A B C : Array Value} (k : T3 W h A B C) (i : Nat) (v : Value) : T3 (W.setCell ⟨h + 1 + 1, i, none⟩ v) h A B (C.setIfInBounds i v) :=
  ⟨k.1.kept (grownBy_set W _ i v) (by simp; omega), k.2.1.kept (grownBy_set W _ i v) (by simp), k.2.2.set i v⟩
theorem T3.facts {W : World} {h : Nat} {u v x u1 v1 x1 u2 v2 x2 : Value} (k : T3 W h #[u, v, x] #[u1, v1, x1] #[u2, v2, x2]) :
    (W.cell? ⟨h, 0, none⟩ = some u ∧ W.cell? ⟨h, 1, none⟩ = some v ∧ W.cell? ⟨h, 2, none⟩ = some x) ∧ (W.cell? ⟨h + 1, 0, none⟩ = some u1 ∧ W.cell? ⟨h + 1, 1, none⟩ = some v1 ∧ W.cell? ⟨h + 1, 2, none⟩ = some x1) ∧ (W.cell? ⟨h + 1 + 1, 0, none⟩ = some u2 ∧ W.cell? ⟨h + 1 + 1, 1, none⟩ = some v2 ∧ W.cell? ⟨h + 1 + 1, 2, none⟩ = some x2) ∧ (W.frozen? ⟨h + 1, 0, none⟩ = false ∧ W.frozen? ⟨h + 1, 1, none⟩ = false ∧ W.frozen? ⟨h + 1, 2, none⟩ = false) ∧ W.frozen? ⟨h + 1 + 1, 0, none⟩ = false ∧ W.frozen? ⟨h + 1 + 1, 1, none⟩ = false ∧ W.frozen? ⟨h + 1 + 1, 2, none⟩ = false :=
  ⟨k.1.three, k.2.1.three, k.2.2.three, ⟨k.2.1.frozen 0, k.2.1.frozen 1, k.2.1.frozen 2⟩, k.2.2.frozen 0, k.2.2.frozen 1, k.2.2.frozen 2⟩

set_option maxRecDepth 8000 in
set_option maxHeartbeats 2000000 in
theorem toDesk_any (n : Int) (s : ByteArray) (a : Option Addr) (cap : Nat) (xs : List Ld) (hn : xs.length ≤ 100000000) (w : World) (h : LdsAt w a xs) :
    Calls Tryz.prog 29 #[.agg #[.int .i64 n, .string s, .slice a xs.length cap]] w fun e w' => ∃ a' cap', e = .returned (.agg #[.int .i64 n, .string s, .slice a' xs.length cap']) ∧ Own2 w' w.heap.size a' cap' xs ∧ w.grownBy w' none := by
  have g3 := made3 w (.cells #[.int .i64 n, .string s, .slice a xs.length cap] 57) (.cells #[.int .i64 0, .string ⟨#[]⟩, .slice none 0 0] 32) (.cells #[.int .i64 0, .string ⟨#[]⟩, .slice none 0 0] 32)
  have ht : T3 (((w.alloc (.cells #[.int .i64 n, .string s, .slice a xs.length cap] 57)).alloc (.cells #[.int .i64 0, .string ⟨#[]⟩, .slice none 0 0] 32)).alloc (.cells #[.int .i64 0, .string ⟨#[]⟩, .slice none 0 0] 32)) w.heap.size #[.int .i64 n, .string s, .slice a xs.length cap] #[.int .i64 0, .string ⟨#[]⟩, .slice none 0 0] #[.int .i64 0, .string ⟨#[]⟩, .slice none 0 0] := ⟨(CellsAt.new w _ _).grown (grownBy_trans (World.grownBy_alloc _ _ none) (World.grownBy_alloc _ _ none)), (CellsAt.second w _ _ _).grown (World.grownBy_alloc _ _ none), CellsAt.third3 w _ _ _ _⟩
  have HT := Lib.hid ht
  have G3 := Lib.hid g3
  have HL := Lib.hid h
  clear h g3 ht
  go_enter Tryz.func29, Tryz.ntmps29
  go_wp2_with fail
  refine (toLaid_any n s _).mono ?_
  rintro e w1 ⟨rfl, hg1⟩
  have k1 := Lib.hid (HT.out.grown hg1)
  have g1 := Lib.hid (grownBy_trans G3.out hg1)
  obtain ⟨⟨a0, a1, a2⟩, ⟨b0, b1, b2⟩, ⟨c0, c1, c2⟩, ⟨f0, f1, f2⟩, f3, f4, f5⟩ := k1.out.facts
  have k2 := Lib.hid (show T3 ((w1.setCell ⟨w.heap.size + 1 + 1, 0, none⟩ (.int .i64 n)).setCell ⟨w.heap.size + 1 + 1, 1, none⟩ (.string s)) w.heap.size #[.int .i64 n, .string s, .slice a xs.length cap] #[.int .i64 0, .string ⟨#[]⟩, .slice none 0 0] #[.int .i64 n, .string s, .slice none 0 0] from (k1.out.set 0 (.int .i64 n)).set 1 (.string s))
  have g2 := Lib.hid (show w.grownBy ((w1.setCell ⟨w.heap.size + 1 + 1, 0, none⟩ (.int .i64 n)).setCell ⟨w.heap.size + 1 + 1, 1, none⟩ (.string s)) none from grownBy_put (grownBy_put g1.out (by omega) 0 _) (by omega) 1 _)
  clear hg1
  go_wp2_with fail
  generalize (w1.setCell ⟨w.heap.size + 1 + 1, 0, none⟩ (.int .i64 n)).setCell ⟨w.heap.size + 1 + 1, 1, none⟩ (.string s) = W2 at *
  have hb2 := k2.out.2.2.lt
  refine (toLaidS_any a cap xs hn W2 (HL.out.grown g2.out)).mono ?_
  rintro e w3 ⟨a', cap', rfl, ho, hg3⟩
  have k3 := Lib.hid (k2.out.grown hg3)
  have g3 := Lib.hid (grownBy_trans g2.out hg3)
  obtain ⟨⟨a0', a1', a2'⟩, ⟨b0', b1', b2'⟩, ⟨c0', c1', c2'⟩, ⟨f0', f1', f2'⟩, f3', f4', f5'⟩ := k3.out.facts
  have k4 := Lib.hid (show T3 (w3.setCell ⟨w.heap.size + 1 + 1, 2, none⟩ (.slice a' xs.length cap')) w.heap.size #[.int .i64 n, .string s, .slice a xs.length cap] #[.int .i64 0, .string ⟨#[]⟩, .slice none 0 0] #[.int .i64 n, .string s, .slice a' xs.length cap'] from k3.out.set 2 (.slice a' xs.length cap'))
  have F := Lib.hid (k4.out.2.1.put3 (.int .i64 n) (.string s) (.slice a' xs.length cap'))
  have O := Lib.hid (((ho.past (grownBy_set w3 (w.heap.size + 1 + 1) 2 (.slice a' xs.length cap')) hb2).past (put3_past _ (w.heap.size + 1) (.int .i64 n) (.string s) (.slice a' xs.length cap')) (by omega)).mono (base' := w.heap.size) (by omega))
  have G := Lib.hid (put3_grown (w.heap.size + 1) (grownBy_put (b := w.heap.size + 1 + 1) g3.out (by omega) 2 (.slice a' xs.length cap')) (by omega) (.int .i64 n) (.string s) (.slice a' xs.length cap'))
  clear ho hg3
  go_wp2_with fail
  exact bodyPost_ret (v := .agg #[.int .i64 n, .string s, .slice a' xs.length cap']) (resDk rfl _ rfl F.out) rfl ⟨a', cap', rfl, O.out, G.out⟩

end Go.Proofs.YtlnffpofbfigaaaGreatDoor

/-
  The laws' markText: the text of a number behind an m.
-/
namespace Go.Proofs.YtlnffpofbfigaaaGreatDoor
open Go.RowKit

def mtx (k : Nat) : List UInt8 := 109 :: decL k
def MtRel (k : Nat) (w : World) (kv ov : Value) (wr : World) : Prop := ∃ (j : Nat) (o : List UInt8), j ≤ k ∧ kv = .int .i64 j ∧ ov = .string (bs o) ∧ (0 < j → decL k = decL j ++ o) ∧ (j = 0 → decL k = o) ∧ o.length ≤ 30 ∧ w.grownBy wr none

set_option maxRecDepth 8000 in
set_option maxHeartbeats 2000000 in
theorem markText_any (k : Nat) (hk : 0 < k) (hk2 : k ≤ 100000000) (w : World) :
    Calls Tryz.prog 89 #[.int .i64 k] w fun e w' => e = .returned (.string (bs (mtx k))) ∧ w.grownBy w' none := by
  go_enter Tryz.func89, Tryz.ntmps89
  go_wp2
  go_loopw [0, 3] (fun kv ov wr => MtRel k w kv ov wr) (fun kv _ _ => (intOf kv).toNat)
  case atStart => exact ⟨k, [], Nat.le_refl _, rfl, rfl, fun _ => by simp, fun h => by omega, by simp, grownBy_refl _ _⟩
  case round =>
    obtain ⟨j, o, hj, rfl, rfl, h1, h0, hl, hgr⟩ := hrel
    have Hgr := Lib.hid hgr
    have H1 := Lib.hid h1
    have H0 := Lib.hid h0
    have hz := bs_size o
    clear hgr h1 h0
    by_cases hp : 0 < j
    · obtain ⟨c, hc⟩ : ∃ c, c = UInt8.ofNat (48 + j % 10) := ⟨_, rfl⟩
      have hb : (c.toNat : Int) = 48 + (j : Int) % 10 := by
        rw [hc, UInt8.toNat_ofNat_of_lt' (by show 48 + j % 10 < 256; omega)]; omega
      have hcv : (convert 22 9 (.slice (some ⟨wr.heap.size, 0, none⟩) 1 1)).run Tryz.prog (wr.alloc (.cells #[.int .u8 (48 + (j : Int) % 10)] 5)) = .ok (.string (bs [c])) (wr.alloc (.cells #[.int .u8 (48 + (j : Int) % 10)] 5)) := by
        refine run_convert_bytes_back _ 22 9 5 ⟨wr.heap.size, 0, none⟩ 1 [c] Tryz.underlying22 Tryz.underlying5 Tryz.underlying9 fun i hi => ?_
        have h0 : i = 0 := by simpa using hi
        subst h0
        rw [add_none]
        show _ = some (Value.int .u8 (c.toNat : Int))
        rw [hb]
        exact (CellsAt.new wr _ _).cell rfl
      have hnew : (0 < j / 10 → decL k = decL (j / 10) ++ (c :: o)) ∧ (j / 10 = 0 → decL k = c :: o) := by
        have e := H1.out hp
        by_cases h10 : j < 10
        · rw [decL_small h10, show 48 + j = 48 + j % 10 by omega, ← hc] at e
          exact ⟨fun h => by omega, fun _ => e⟩
        · rw [decL_great h10, ← hc, List.append_assoc] at e
          exact ⟨fun _ => e, fun h => by omega⟩
      have hlen : (c :: o).length ≤ 30 := by
        have hk9 := decL_len (k := k) (m := 9) (by omega) (by omega)
        by_cases h10 : j / 10 = 0
        · rw [hnew.2 h10] at hk9; omega
        · rw [hnew.1 (by omega), List.length_append] at hk9; omega
      have ho : bs [c] ++ bs o = bs (c :: o) := bs_app _ _
      have hgn := Lib.hid (grownBy_trans Hgr.out (World.grownBy_alloc wr (.cells #[.int .u8 (48 + (j : Int) % 10)] 5) none))
      have hs1 : (bs [c]).size = 1 := rfl
      have HN := Lib.hid hnew
      clear hnew hc hb
      go_wp2
      go_roundw
      case rel => exact ⟨j / 10, c :: o, by omega, by go_num, by rw [← ho], HN.out.1, HN.out.2, hlen, hgn.out⟩
      case measure => simp [intOf]; omega
    · obtain rfl : j = 0 := by omega
      go_wp2
      go_ret
      refine ⟨?_, Hgr.out⟩
      rw [mtx, (show decL k = o from H0.out trivial), show (109 :: o) = [109] ++ o from rfl, ← bs_app]
      rfl

end Go.Proofs.YtlnffpofbfigaaaGreatDoor

/-
  A row of pairs in the call's own memory, marked.
-/
namespace Go.Proofs.YtlnffpofbfigaaaGreatDoor
open Go.RowKit

/-- The pairs that the laws write into a row, from the mark k on. -/
def mkP (k : Nat) (i : Nat) : Ld := (((k + 2 * i : Nat) : Int), mtx (k + 2 * i + 1))
def mkRow (k n : Nat) : List Ld := (List.range n).map (mkP k)
theorem mkRow_len (k n : Nat) : (mkRow k n).length = n := by simp [mkRow]
theorem mkRow_at (k n i : Nat) (h : i < n) : (mkRow k n).getD i nilLd = mkP k i := by simp [mkRow, List.getD_eq_getElem?_getD, h]
/-- The row while it is marked: the first i are. -/
def MkCur (cur : Array Value) (off k n i : Nat) : Prop :=
  (∀ j, j < i → cur[off + j * 2]? = some (.int .i64 (mkP k j).1) ∧ cur[off + j * 2 + 1]? = some (.string (bs (mkP k j).2))) ∧ ∀ j, i ≤ j → j < n → ∃ u v, cur[off + j * 2]? = some u ∧ cur[off + j * 2 + 1]? = some v
theorem MkCur.next {cur : Array Value} {off k n i : Nat} (h : MkCur cur off k n i) (hi : i < n) : MkCur ((cur.setIfInBounds (off + i * 2) (.int .i64 (mkP k i).1)).setIfInBounds (off + i * 2 + 1) (.string (bs (mkP k i).2))) off k n (i + 1) := by
  obtain ⟨u, v, hu, hv⟩ := h.2 i (Nat.le_refl _) hi
  have su := (Array.getElem?_eq_some_iff.1 hu).1
  have sv := (Array.getElem?_eq_some_iff.1 hv).1
  refine ⟨fun j hj => ?_, fun j hj hn => ?_⟩
  · by_cases e : j = i
    · subst e
      refine ⟨?_, ?_⟩
      · rw [Array.getElem?_setIfInBounds_ne (by omega), Array.getElem?_setIfInBounds_self_of_lt su]
      · rw [Array.getElem?_setIfInBounds_self_of_lt (by simpa using sv)]
    · have := h.1 j (by omega)
      refine ⟨?_, ?_⟩
      · rw [Array.getElem?_setIfInBounds_ne (by omega), Array.getElem?_setIfInBounds_ne (by omega)]; exact this.1
      · rw [Array.getElem?_setIfInBounds_ne (by omega), Array.getElem?_setIfInBounds_ne (by omega)]; exact this.2
  · obtain ⟨x, y, h1, h2⟩ := h.2 j (by omega) hn
    refine ⟨x, y, ?_, ?_⟩
    · rw [Array.getElem?_setIfInBounds_ne (by omega), Array.getElem?_setIfInBounds_ne (by omega)]; exact h1
    · rw [Array.getElem?_setIfInBounds_ne (by omega), Array.getElem?_setIfInBounds_ne (by omega)]; exact h2

def MkRelD (k n g off : Nat) (w : World) (kv iv : Value) (wr : World) : Prop :=
  ∃ (i : Nat) (cur : Array Value), i ≤ n ∧ kv = .int .i64 ((k + 2 * i : Nat) : Int) ∧ iv = .int .i64 i ∧ wr.heap[g]? = some (.cells cur 29 (0, 0)) ∧ MkCur cur off k n i ∧ w.grownBy wr (some g)
theorem heap_put {W : World} {g j : Nat} {cur : Array Value} {v : Value} (h : W.heap[g]? = some (.cells cur 29 (0, 0))) : (W.setCell ⟨g, j, none⟩ v).heap[g]? = some (.cells (cur.setIfInBounds j v) 29 (0, 0)) := CellsAt.set (T := 29) h j v

theorem grown_any {a b : World} {row : Option Nat} (h : a.grownBy b none) : a.grownBy b row := ⟨h.os, h.tape, h.output, h.size, fun k hk _ => h.block k hk (by simp)⟩

set_option maxRecDepth 8000 in
set_option maxHeartbeats 2000000 in
theorem markLds_any (k n g off cap : Nat) (cur0 : Array Value) (hk : 0 < k ∧ k ≤ 10000000) (hn : n ≤ 10000000) (w : World) (hg : w.heap[g]? = some (.cells cur0 29 (0, 0))) (hm : MkCur cur0 off k n 0) :
    Calls Tryz.prog 87 #[.slice (some ⟨g, off, none⟩) n cap, .int .i64 k] w fun e w' => ∃ cur, e = .returned (.int .i64 ((k + 2 * n : Nat) : Int)) ∧ w'.heap[g]? = some (.cells cur 29 (0, 0)) ∧ MkCur cur off k n n ∧ w.grownBy w' (some g) := by
  have HG := Lib.hid hg
  have HM := Lib.hid hm
  clear hg hm
  go_enter Tryz.func87, Tryz.ntmps87
  go_wp2
  go_loopw [1, 5] (fun kv iv wr => MkRelD k n g off w kv iv wr) (fun _ iv _ => n - (intOf iv).toNat)
  case atStart => exact ⟨0, cur0, by omega, by simp, rfl, HG.out, HM.out, grownBy_refl _ _⟩
  case round =>
    obtain ⟨i, cur, hi, rfl, rfl, hh, hc, hgr⟩ := hrel
    by_cases hlt : i < n
    · obtain ⟨u, v, hu, hv⟩ := hc.2 i (Nat.le_refl _) hlt
      have c0 : wr.cell? ⟨g, off + i * 2, none⟩ = some u := by rw [cell_of_row wr g _ cur _ (0, 0) hh]; exact hu
      have f0 : wr.frozen? ⟨g, off + i * 2, none⟩ = false := frozen_of_row wr g _ cur _ hh
      have hnx := Lib.hid (hc.next hlt)
      obtain ⟨K, hK⟩ : ∃ K, K = k + 2 * i := ⟨_, rfl⟩
      have hp : Hid (mkP k i = ((K : Int), mtx (K + 1))) := by rw [hK]; rfl
      have hKs : 0 < K ∧ K ≤ 100000000 - 1 := by omega
      have cm : ∀ w, Calls Tryz.prog 89 #[.int .i64 ((K : Int) + 1)] w fun e w' => e = .returned (.string (bs (mtx (K + 1)))) ∧ w.grownBy w' none := fun w => markText_any (K + 1) (by omega) (by omega) w
      have h1 := Lib.hid (heap_put (j := off + i * 2) (v := .int .i64 (K : Int)) hh)
      have hv1 : (cur.setIfInBounds (off + i * 2) (.int .i64 (K : Int)))[off + i * 2 + 1]? = some v := by rw [Array.getElem?_setIfInBounds_ne (by omega)]; exact hv
      have HV1 := Lib.hid hv1
      have G1 := Lib.hid (grownBy_trans hgr (grownBy_set wr g (off + i * 2) (.int .i64 (K : Int))))
      rw [← hK]
      have HK := Lib.hid hK
      clear hh hc hgr hu hv hv1 hK
      go_wp2_with (first | (go_at_call 89; refine (cm _).mono ?_; rintro e w2 ⟨rfl, hg2⟩; have h2 : w2.heap[g]? = _ := (hg2.block g (Array.getElem?_eq_some_iff.1 h1.out).1 (by simp)).trans h1.out; have c1 : w2.cell? ⟨g, off + i * 2 + 1, none⟩ = some v := (by rw [cell_of_row w2 g _ _ _ (0, 0) h2]; exact HV1.out); have f1 : w2.frozen? ⟨g, off + i * 2 + 1, none⟩ = false := frozen_of_row w2 g _ _ _ h2; have h3 := Lib.hid (heap_put (j := off + i * 2 + 1) (v := .string (bs (mtx (K + 1)))) h2); have G3 := Lib.hid (grownBy_trans G1.out (grownBy_trans (grown_any hg2) (grownBy_set w2 g (off + i * 2 + 1) (.string (bs (mtx (K + 1))))))); clear h2 hg2))
      go_roundw
      case rel =>
        have e : ((K : Int) + 1 + 1) = ((k + 2 * (i + 1) : Nat) : Int) := by have := HK.out; omega
        refine ⟨i + 1, _, by omega, by rw [← e], by go_num, h3.out, ?_, G3.out⟩
        have q := hnx.out
        rw [hp.out] at q
        exact q
      case measure => simp [intOf]; omega
    · obtain rfl : i = n := by omega
      have R := Lib.hid (show ∃ cur, wr.heap[g]? = some (.cells cur 29 (0, 0)) ∧ MkCur cur off k i i ∧ w.grownBy wr (some g) from ⟨cur, hh, hc, hgr⟩)
      clear hh hc hgr
      go_wp2
      go_ret
      obtain ⟨cur, h1, h2, h3⟩ := R.out
      exact ⟨cur, rfl, h1, h2, h3⟩

end Go.Proofs.YtlnffpofbfigaaaGreatDoor

/-
  Marked rows of pairs read again; whole desks marked and read again.
-/
namespace Go.Proofs.YtlnffpofbfigaaaGreatDoor
open Go.RowKit

def HlRelD (k n : Nat) (w : World) (kv iv : Value) (wr : World) : Prop := ∃ i : Nat, i ≤ n ∧ kv = .int .i64 ((k + 2 * i : Nat) : Int) ∧ iv = .int .i64 i ∧ w.grownBy wr none

set_option maxRecDepth 8000 in
set_option maxHeartbeats 2000000 in
theorem heldLds_any (k n cap : Nat) (a : Option Addr) (hk : 0 < k ∧ k ≤ 10000000) (hn : n ≤ 10000000) (w : World) (hx : LdsAt w a (mkRow k n)) :
    Calls Tryz.prog 88 #[.slice a n cap, .int .i64 k] w fun e w' => e = .returned (.int .i64 ((k + 2 * n : Nat) : Int)) ∧ w.grownBy w' none := by
  have HX := Lib.hid hx
  clear hx
  go_enter Tryz.func88, Tryz.ntmps88
  go_wp2
  go_loopw [1, 5] (fun kv iv wr => HlRelD k n w kv iv wr) (fun _ iv _ => n - (intOf iv).toNat)
  case atStart => exact ⟨0, by omega, by simp, rfl, grownBy_refl _ _⟩
  case round =>
    obtain ⟨i, hi, rfl, rfl, hgr⟩ := hrel
    have Hgr := Lib.hid hgr
    clear hgr
    by_cases hlt : i < n
    · rcases (HX.out.grown Hgr.out).2 with h0 | ⟨b, off, rfl, hb, hc⟩
      · have := congrArg List.length h0; rw [mkRow_len] at this; simp at this; omega
      obtain ⟨c0, c1⟩ := hc i (by rw [mkRow_len]; exact hlt)
      rw [mkRow_at k n i hlt] at c0 c1
      obtain ⟨K, hK⟩ : ∃ K, K = k + 2 * i := ⟨_, rfl⟩
      have hp : mkP k i = ((K : Int), mtx (K + 1)) := by rw [hK]; rfl
      rw [hp] at c0 c1
      have cm : ∀ w, Calls Tryz.prog 89 #[.int .i64 ((K : Int) + 1)] w fun e w' => e = .returned (.string (bs (mtx (K + 1)))) ∧ w.grownBy w' none := fun w => markText_any (K + 1) (by omega) (by omega) w
      have hKb : K ≤ 100000000 := by omega
      rw [← hK]
      have HK := Lib.hid hK
      have HC := Lib.hid c1
      clear hc hb hK hp
      generalize bs (mtx (K + 1)) = T at *
      go_wp2_with fail
      go_region_with (go_at_call 89; refine (cm _).mono ?_; rintro e w2 ⟨rfl, hg2⟩; have c1' := (drew_grown hg2).cell HC.out (by simp))
      all_goals go_wp2_with fail
      all_goals go_roundw
      all_goals first | (simp [intOf]; omega) | exact ⟨i + 1, by omega, by have := HK.out; congr 1; omega, by go_num, grownBy_trans Hgr.out (drew_grown hg2)⟩
    · obtain rfl : i = n := by omega
      go_wp2
      go_ret
      exact ⟨rfl, Hgr.out⟩

end Go.Proofs.YtlnffpofbfigaaaGreatDoor

/-
  The exact law of DeskNew: a desk without anything of before.
-/
namespace Go.Proofs.YtlnffpofbfigaaaGreatDoor
open Go.RowKit

theorem markLds_nil (k : Int) (w : World) :
    Calls Tryz.prog 87 #[.slice none 0 0, .int .i64 k] w fun e w' => e = .returned (.int .i64 k) ∧ w = w' := by
  go_enter Tryz.func87, Tryz.ntmps87
  go_wp2
  go_loopw [1, 5] (fun kv i wr => kv = .int .i64 k ∧ i = .int .i64 0 ∧ w = wr) (fun _ _ _ => 0)
  case atStart => exact ⟨rfl, rfl, rfl⟩
  case round =>
    obtain ⟨rfl, rfl, rfl⟩ := hrel
    go_wp2
    go_ret
    exact ⟨rfl, rfl⟩
theorem heldLds_nil (k : Int) (w : World) :
    Calls Tryz.prog 88 #[.slice none 0 0, .int .i64 k] w fun e w' => e = .returned (.int .i64 k) ∧ w = w' := by
  go_enter Tryz.func88, Tryz.ntmps88
  go_wp2
  go_loopw [1, 5] (fun kv i wr => kv = .int .i64 k ∧ i = .int .i64 0 ∧ w = wr) (fun _ _ _ => 0)
  case atStart => exact ⟨rfl, rfl, rfl⟩
  case round =>
    obtain ⟨rfl, rfl, rfl⟩ := hrel
    go_wp2
    go_ret
    exact ⟨rfl, rfl⟩
theorem markDk_nil (m : Int) (t : ByteArray) (k : Int) (w : World) :
    Calls Tryz.prog 31 #[.agg #[.int .i64 m, .string t, .slice none 0 0], .int .i64 k] w fun e w' => e = .returned (.int .i64 k) ∧ w.grownBy w' none := by
  go_enter Tryz.func31, Tryz.ntmps31
  go_wp2_with (first | (go_at_call 87; refine (markLds_nil _ _).mono ?_; rintro e w' ⟨rfl, rfl⟩))
  go_ret
  exact ⟨rfl, World.grownBy_alloc _ _ none⟩
theorem heldDk_nil (m : Int) (t : ByteArray) (k : Int) (hk : 0 ≤ k) (w : World) :
    Calls Tryz.prog 32 #[.agg #[.int .i64 m, .string t, .slice none 0 0], .int .i64 k] w fun e w' => e = .returned (.int .i64 k) ∧ w.grownBy w' none := by
  go_enter Tryz.func32, Tryz.ntmps32
  go_wp2_with (first | (go_at_call 88; refine (heldLds_nil _ _).mono ?_; rintro e w' ⟨rfl, rfl⟩))
  go_ret
  exact ⟨rfl, World.grownBy_alloc _ _ none⟩

end Go.Proofs.YtlnffpofbfigaaaGreatDoor

/-
  Deeds counted and copied; desks with rows marked and read again.
-/
namespace Go.Proofs.YtlnffpofbfigaaaGreatDoor
open Go.RowKit

set_option maxHeartbeats 1000000 in
theorem markLds_zero (a : Option Addr) (cap : Nat) (k : Int) (w : World) :
    Calls Tryz.prog 87 #[.slice a 0 cap, .int .i64 k] w fun e w' => e = .returned (.int .i64 k) ∧ w = w' := by
  go_enter Tryz.func87, Tryz.ntmps87
  go_wp2
  go_loopw [1, 5] (fun kv iv wr => kv = .int .i64 k ∧ iv = .int .i64 0 ∧ w = wr) (fun _ _ _ => 0)
  case atStart => exact ⟨rfl, rfl, rfl⟩
  case round =>
    obtain ⟨rfl, rfl, rfl⟩ := hrel
    go_wp2
    go_ret
    exact ⟨rfl, rfl⟩

/-- What is left of a row that was marked: its pairs; nothing else changed but its own block. -/
def MarkedD (a : Option Addr) (k n : Nat) (w w' : World) : Prop := LdsAt w' a (mkRow k n) ∧ ∃ row : Option Nat, (∀ g, row = some g → 0 < n ∧ ∃ x, a = some x ∧ x.block = g) ∧ w.grownBy w' row

set_option maxHeartbeats 1000000 in
theorem markDk_any (m : Int) (t : ByteArray) (k base cap : Nat) (a : Option Addr) (xs : List Ld) (hk : 0 < k ∧ k ≤ 10000000) (hn : xs.length ≤ 10000000) (w : World) (h : OwnL w base a xs) :
    Calls Tryz.prog 31 #[.agg #[.int .i64 m, .string t, .slice a xs.length cap], .int .i64 k] w fun e w' => e = .returned (.int .i64 ((k + 2 * xs.length : Nat) : Int)) ∧ MarkedD a k xs.length w w' := by
  have h2 := h.kept (World.grownBy_alloc w (.cells #[.int .i64 m, .string t, .slice a xs.length cap] 32) none)
  have G0 := Lib.hid (fun row => World.grownBy_alloc w (.cells #[.int .i64 m, .string t, .slice a xs.length cap] 32) row)
  have cm : ∀ W, OwnL W base a xs → Calls Tryz.prog 87 #[.slice a xs.length cap, .int .i64 k] W fun e w' => e = .returned (.int .i64 ((k + 2 * xs.length : Nat) : Int)) ∧ MarkedD a k xs.length W w' := by
    intro W hW
    by_cases h0 : xs = []
    · subst h0
      refine (markLds_zero a cap k W).mono ?_
      rintro e w' ⟨rfl, rfl⟩
      exact ⟨by simp, LdsAt.nil _ _, none, by simp, grownBy_refl _ _⟩
    · obtain ⟨g, off, cur, rfl, hb, hg, hc⟩ := hW.2.resolve_left h0
      have hpos : 0 < xs.length := List.length_pos_iff.2 h0
      refine (markLds_any k xs.length g off cap cur hk hn W hg ⟨fun j hj => absurd hj (by omega), fun j _ hj => ⟨_, _, hc j hj⟩⟩).mono ?_
      rintro e w' ⟨cur', rfl, h1, h2, h3⟩
      refine ⟨rfl, ?_, some g, fun q hq => ?_, h3⟩
      · refine OwnL.at (base := 0) ⟨by rw [mkRow_len]; exact hW.1, .inr ⟨g, off, cur', rfl, Nat.zero_le _, h1, fun i hi => ?_⟩⟩
        rw [mkRow_len] at hi
        rw [mkRow_at k _ i hi]
        exact h2.1 i hi
      · cases hq
        exact ⟨hpos, _, rfl, rfl⟩
  clear h
  go_enter Tryz.func31, Tryz.ntmps31
  go_wp2_with (first | (go_at_call 87; refine (cm _ h2).mono ?_; rintro e w' ⟨rfl, hM⟩))
  go_ret
  obtain ⟨row, hr, hg⟩ := hM.2
  exact ⟨rfl, hM.1, row, hr, grownBy_trans (G0.out _) hg⟩

set_option maxHeartbeats 1000000 in
theorem heldDk_any (m : Int) (t : ByteArray) (k n cap : Nat) (a : Option Addr) (hk : 0 < k ∧ k ≤ 10000000) (hn : n ≤ 10000000) (w : World) (h : LdsAt w a (mkRow k n)) :
    Calls Tryz.prog 32 #[.agg #[.int .i64 m, .string t, .slice a n cap], .int .i64 k] w fun e w' => e = .returned (.int .i64 ((k + 2 * n : Nat) : Int)) ∧ w.grownBy w' none := by
  have g0 := World.grownBy_alloc w (.cells #[.int .i64 m, .string t, .slice a n cap] 32) none
  have h2 := h.grown g0
  have hp : ¬ ((k + 2 * n : Nat) : Int) < 0 := by omega
  clear h
  go_enter Tryz.func32, Tryz.ntmps32
  go_wp2_with (first | (go_at_call 88; refine (heldLds_any k n cap a hk hn _ h2).mono ?_; rintro e w' ⟨rfl, hM⟩))
  all_goals go_ret
  all_goals exact ⟨rfl, grownBy_trans g0 hM⟩

end Go.Proofs.YtlnffpofbfigaaaGreatDoor

/-
  Rows of deeds: what lies in them; rows that a call made.
-/
namespace Go.Proofs.YtlnffpofbfigaaaGreatDoor
open Go.RowKit

def nilDd : Dd := (0, 0, [])
/-- The cells of a row of deeds. -/
def ddC : List Dd → List Value
  | [] => []
  | x :: l => .int .i64 x.1 :: .int .i64 x.2.1 :: .string (bs x.2.2) :: ddC l
theorem ddC_len : ∀ l : List Dd, (ddC l).length = l.length * 3
  | [] => rfl
  | x :: l => by show (ddC l).length + 1 + 1 + 1 = (l.length + 1) * 3; rw [ddC_len l]; omega
theorem ddC_app : ∀ l m : List Dd, ddC (l ++ m) = ddC l ++ ddC m
  | [], m => rfl
  | x :: l, m => by show _ :: _ :: _ :: ddC (l ++ m) = _; rw [ddC_app l m]; rfl
theorem ddC_at : ∀ (l : List Dd) (i : Nat), i < l.length → (ddC l)[i * 3]? = some (.int .i64 (l.getD i nilDd).1) ∧ (ddC l)[i * 3 + 1]? = some (.int .i64 (l.getD i nilDd).2.1) ∧ (ddC l)[i * 3 + 2]? = some (.string (bs (l.getD i nilDd).2.2))
  | [], i, h => absurd h (by simp)
  | x :: l, 0, _ => ⟨rfl, rfl, rfl⟩
  | x :: l, i + 1, h => by
    have := ddC_at l i (by simpa using h)
    rw [show (i + 1) * 3 = i * 3 + 1 + 1 + 1 by omega]
    exact this
theorem ddC_one : ∀ (l : List Dd), ∀ u ∈ ddC l, u.oneCell' = true
  | [], u, h => absurd h (by simp [ddC])
  | x :: l, u, h => by
    rcases List.mem_cons.1 h with rfl | h
    · rfl
    · rcases List.mem_cons.1 h with rfl | h
      · rfl
      · rcases List.mem_cons.1 h with rfl | h
        · rfl
        · exact ddC_one l u h
theorem ddC_get {l : List Dd} {j : Nat} {u : Value} (h : (ddC l)[j]? = some u) : ∃ i, i < l.length ∧ ((j = i * 3 ∧ u = .int .i64 (l.getD i nilDd).1) ∨ (j = i * 3 + 1 ∧ u = .int .i64 (l.getD i nilDd).2.1) ∨ (j = i * 3 + 2 ∧ u = .string (bs (l.getD i nilDd).2.2))) := by
  have hj := (List.getElem?_eq_some_iff.1 h).1
  rw [ddC_len] at hj
  have hi : j / 3 < l.length := by omega
  have hc := ddC_at l (j / 3) hi
  refine ⟨j / 3, hi, ?_⟩
  have hm : j % 3 = 0 ∨ j % 3 = 1 ∨ j % 3 = 2 := by omega
  rcases hm with e | e | e
  · have ej : j = j / 3 * 3 := by omega
    rw [ej] at h
    have := h.symm.trans hc.1
    exact .inl ⟨ej, by simpa using this⟩
  · have ej : j = j / 3 * 3 + 1 := by omega
    rw [ej] at h
    have := h.symm.trans hc.2.1
    exact .inr (.inl ⟨ej, by simpa using this⟩)
  · have ej : j = j / 3 * 3 + 2 := by omega
    rw [ej] at h
    have := h.symm.trans hc.2.2
    exact .inr (.inr ⟨ej, by simpa using this⟩)

/-- A row of deeds as it can be read. -/
def DdsAt (w : World) (a : Option Addr) (xs : List Dd) : Prop :=
  xs.length ≤ maxLen ∧ (xs = [] ∨ ∃ b off, a = some ⟨b, off, none⟩ ∧ b < w.heap.size ∧ ∀ i, i < xs.length → w.cell? ⟨b, off + i * 3, none⟩ = some (.int .i64 (xs.getD i nilDd).1) ∧ w.cell? ⟨b, off + i * 3 + 1, none⟩ = some (.int .i64 (xs.getD i nilDd).2.1) ∧ w.cell? ⟨b, off + i * 3 + 2, none⟩ = some (.string (bs (xs.getD i nilDd).2.2)))
theorem DdsAt.kept {w w' : World} {a : Option Addr} {xs : List Dd} {row : Option Nat} (h : DdsAt w a xs) (hg : w.grownBy w' row) (hne : ∀ x, a = some x → some x.block ≠ row) : DdsAt w' a xs := by
  refine ⟨h.1, ?_⟩
  rcases h.2 with h | ⟨b, off, ha, hb, hc⟩
  · exact .inl h
  · exact .inr ⟨b, off, ha, Nat.lt_of_lt_of_le hb hg.size, fun i hi => ⟨(World.cell?_of_block (w := w) (a := ⟨b, off + i * 3, none⟩) (hg.block b hb (hne _ ha))).trans (hc i hi).1, (World.cell?_of_block (w := w) (a := ⟨b, off + i * 3 + 1, none⟩) (hg.block b hb (hne _ ha))).trans (hc i hi).2.1, (World.cell?_of_block (w := w) (a := ⟨b, off + i * 3 + 2, none⟩) (hg.block b hb (hne _ ha))).trans (hc i hi).2.2⟩⟩
theorem DdsAt.grown {w w' : World} {a : Option Addr} {xs : List Dd} (h : DdsAt w a xs) (hg : w.grownBy w' none) : DdsAt w' a xs := h.kept hg (by simp)
theorem DdsAt.nil (w : World) (a : Option Addr) : DdsAt w a [] := ⟨by simp, .inl rfl⟩
theorem DdsAt.take {w : World} {a : Option Addr} {xs : List Dd} (h : DdsAt w a xs) (n : Nat) : DdsAt w a (xs.take n) := by
  refine ⟨Nat.le_trans (by rw [List.length_take]; omega) h.1, ?_⟩
  rcases h.2 with h | ⟨b, off, ha, hb, hc⟩
  · exact .inl (by rw [h, List.take_nil])
  · refine .inr ⟨b, off, ha, hb, fun i hi => ?_⟩
    rw [List.length_take] at hi
    have e : (xs.take n).getD i nilDd = xs.getD i nilDd := by
      rw [List.getD_eq_getElem?_getD, List.getD_eq_getElem?_getD, List.getElem?_take, if_pos (by omega)]
    rw [e]
    exact hc i (by omega)
theorem DdsAt.drop {w : World} {b off : Nat} {xs : List Dd} (h : DdsAt w (some ⟨b, off, none⟩) xs) (n : Nat) : DdsAt w (some ⟨b, off + n * 3, none⟩) (xs.drop n) := by
  refine ⟨Nat.le_trans (by rw [List.length_drop]; omega) h.1, ?_⟩
  rcases h.2 with h | ⟨b', off', ha, hb, hc⟩
  · exact .inl (by rw [h, List.drop_nil])
  · cases ha
    refine .inr ⟨b, off + n * 3, rfl, hb, fun i hi => ?_⟩
    rw [List.length_drop] at hi
    have e : (xs.drop n).getD i nilDd = xs.getD (n + i) nilDd := by
      rw [List.getD_eq_getElem?_getD, List.getD_eq_getElem?_getD, List.getElem?_drop]
    have k := hc (n + i) (by omega)
    rw [show off + (n + i) * 3 = off + n * 3 + i * 3 by omega] at k
    rw [e]
    exact k

/-- A row of deeds that the call owns, from its block's first cell on. -/
def Own3 (w : World) (base : Nat) (a : Option Addr) (cap : Nat) (xs : List Dd) : Prop :=
  w.ownsRow base 40 3 (.slice a xs.length cap) xs.length (ddC xs)
theorem own3_shape {w : World} {base n : Nat} {v : Value} {zs : List Dd} (h : w.ownsRow base 40 3 v n (ddC zs)) : ∃ a cap, v = .slice a zs.length cap ∧ n = zs.length ∧ Own3 w base a cap zs := by
  have hl := h.1
  rw [ddC_len] at hl
  obtain rfl : n = zs.length := by omega
  rcases h.2 with ⟨rfl, h0⟩ | ⟨g, cap, cur, rfl, h1⟩
  · exact ⟨none, 0, by rw [h0], rfl, by unfold Own3; rw [h0]; rw [h0] at h; exact h⟩
  · exact ⟨some ⟨g, 0, none⟩, cap, rfl, rfl, h⟩
theorem Own3.nil (w : World) (base : Nat) : Own3 w base none 0 [] := World.ownsRow_nil _ _ _ _
theorem Own3.made (w : World) : Own3 (w.alloc (.cells #[] 40)) w.heap.size (some ⟨w.heap.size, 0, none⟩) 0 [] := World.ownsRow_made w #[] 0 (Nat.le_refl _) (Nat.zero_le _) rfl
theorem Own3.kept {w w' : World} {base : Nat} {a : Option Addr} {cap : Nat} {zs : List Dd} (h : Own3 w base a cap zs) (hg : w.grownBy w' none) : Own3 w' base a cap zs :=
  World.ownsRow.kept h hg (by cases (Value.slice a zs.length cap).ownBlock <;> simp)
theorem Own3.past {w w' : World} {base b : Nat} {a : Option Addr} {cap : Nat} {zs : List Dd} (h : Own3 w base a cap zs) (hg : w.grownBy w' (some b)) (hb : b < base) : Own3 w' base a cap zs :=
  World.ownsRow.kept h hg (.inr fun e => by have := World.ownsRow.lt h _ e; omega)
theorem Own3.bare {w : World} {base : Nat} {a : Option Addr} {cap : Nat} {zs : List Dd} (h : Own3 w base a cap zs) : a = none → cap = 0 := by
  intro e
  subst e
  rcases h.2 with ⟨h0, _⟩ | ⟨g, c, cur, he, _⟩
  · simp only [Value.slice.injEq] at h0; exact h0.2.2
  · simp at he
theorem Own3.room {w : World} {base : Nat} {a : Option Addr} {cap : Nat} {zs : List Dd} (h : Own3 w base a cap zs) : zs.length ≤ cap ∧ cap ≤ maxLen := by
  rcases h.2 with ⟨h0, h1⟩ | ⟨g, c, cur, he, _, _, hn, hc, _⟩
  · simp only [Value.slice.injEq] at h0
    rw [h1, h0.2.2]; exact ⟨Nat.le_refl _, Nat.zero_le _⟩
  · simp only [Value.slice.injEq, true_and] at he
    rw [he.2]; exact ⟨hn, hc⟩
theorem Own3.mono {w : World} {base base' : Nat} {a : Option Addr} {cap : Nat} {zs : List Dd} (h : Own3 w base a cap zs) (hb : base' ≤ base) : Own3 w base' a cap zs := by
  refine ⟨h.1, ?_⟩
  rcases h.2 with h | ⟨g, c, cur, h1, h2, h3⟩
  · exact .inl h
  · exact .inr ⟨g, c, cur, h1, Nat.le_trans hb h2, h3⟩
theorem Own3.curs {w : World} {base : Nat} {a : Option Addr} {cap : Nat} {zs : List Dd} (h : Own3 w base a cap zs) : zs = [] ∨ ∃ (g : Nat) (cur : Array Value), a = some ⟨g, 0, none⟩ ∧ base ≤ g ∧ w.heap[g]? = some (.cells cur 40 (0, 0)) ∧ ∀ i, i < zs.length → cur[i * 3]? = some (.int .i64 (zs.getD i nilDd).1) ∧ cur[i * 3 + 1]? = some (.int .i64 (zs.getD i nilDd).2.1) ∧ cur[i * 3 + 2]? = some (.string (bs (zs.getD i nilDd).2.2)) := by
  rcases h.2 with ⟨_, h0⟩ | ⟨g, c, cur, he, hb, hg, hnc, hcm, hcs, htake⟩
  · exact .inl (List.length_eq_zero_iff.1 h0)
  · simp only [Value.slice.injEq, true_and] at he
    obtain ⟨rfl, rfl⟩ := he
    refine .inr ⟨g, cur, rfl, hb, hg, fun i hi => ?_⟩
    have k := ddC_at zs i hi
    rw [← htake, List.getElem?_take, if_pos (by omega), List.getElem?_take, if_pos (by omega), List.getElem?_take, if_pos (by omega)] at k
    simpa using k
theorem Own3.at {w : World} {base : Nat} {a : Option Addr} {cap : Nat} {zs : List Dd} (h : Own3 w base a cap zs) : DdsAt w a zs := by
  refine ⟨Nat.le_trans h.room.1 h.room.2, ?_⟩
  rcases h.curs with h | ⟨g, cur, ha, hb, hg, hc⟩
  · exact .inl h
  · refine .inr ⟨g, 0, ha, (Array.getElem?_eq_some_iff.1 hg).1, fun i hi => ?_⟩
    rw [cell_of_row w g _ cur _ (0, 0) hg, cell_of_row w g _ cur _ (0, 0) hg, cell_of_row w g _ cur _ (0, 0) hg, Nat.zero_add]
    exact hc i hi

theorem infoDd : (Tryz.prog.info? 40).map (fun i => (i.zero, i.size, i.bytes)) = some (some (.agg #[.int .i64 0, .int .i64 0, .string ⟨#[]⟩]), 3, 32) := by kernel_rfl

def DdsPost (xs : List Dd) (w : World) (e : Ending) (w' : World) : Prop :=
  ∃ a cap, e = .returned (.slice a xs.length cap) ∧ Own3 w' w.heap.size a cap xs ∧ w.grownBy w' none
theorem grow_own3 {a b c : World} {base : Nat} {v : Value} {n : Nat} {xs : List Value} {e : TypeId} (h : a.grownBy b none) (ho : b.ownsRow base e 3 v n xs) (hb : a.heap.size ≤ base) (k : b.grownBy c v.ownBlock) : a.grownBy c none :=
  ⟨k.os.trans h.os, k.tape.trans h.tape, k.output.trans h.output, Nat.le_trans h.size k.size, fun i hi _ => by
    refine (k.block i (Nat.lt_of_lt_of_le hi h.size) fun e => ?_).trans (h.block i hi (by simp))
    have := World.ownsRow.lt ho i e.symm
    omega⟩

end Go.Proofs.YtlnffpofbfigaaaGreatDoor

/-
  Ahead of the draw of a desk: what lies where between the deeds.
-/
namespace Go.Proofs.YtlnffpofbfigaaaGreatDoor
open Go.RowKit

def DDPost (r P : Nat) (w : World) (e : Ending) (w' : World) : Prop := ∃ (d : Dk) (a : Option Addr) (cap : Nat), e = .returned (dkV d a cap) ∧ Own2 w' w.heap.size a cap d.2 ∧ Rd w' r (P + 700) ∧ w.grownBy w' (some r)
theorem doR_len {d : Dk} {D : Dd} (h : (doR d D).2 = true) : (doR d D).1.2.length ≤ d.2.length + 1 := by
  unfold doR at h ⊢
  split at h
  · rename_i hd
    rw [if_pos hd]
    cases hq : doD d D with
    | none => rw [hq] at h; cases h
    | some e =>
      show e.2.length ≤ d.2.length + 1
      rcases doD_of hq with ⟨_, p, _, rfl⟩ | ⟨_, y, _, rfl⟩
      · show d.2.dropLast.length ≤ _
        rw [List.length_dropLast]; omega
      · show (capP (d.2 ++ [d.1])).length ≤ _
        unfold capP
        rw [List.length_drop, List.length_append, List.length_singleton]; omega
  · cases h
theorem grown_none {a b : World} {row : Option Nat} (h : a.grownBy b none) : a.grownBy b row := ⟨h.os, h.tape, h.output, h.size, fun k hk _ => h.block k hk (by simp)⟩
/-- A desk that is being made, between the deeds: its block, its row, the drawing. -/
def DkL (w0 : World) (b r P : Nat) (k : Value) (wr : World) : Prop :=
  ∃ (j : Nat) (d : Dk) (a : Option Addr) (cap : Nat), k = .int .i64 j ∧ j ≤ 5 ∧ d.2.length + j ≤ 5 ∧ CellsAt wr b #[.int .i64 d.1.1, .string (bs d.1.2), .slice a d.2.length cap] 32 ∧ Own2 wr w0.heap.size a cap d.2 ∧ Rd wr r (P + 502 - j * 100) ∧ w0.grownBy wr (some r) ∧ CellsAt wr w0.heap.size #[.int .i64 0, .string ⟨#[]⟩, .slice none 0 0] 32
theorem three_facts {W : World} {b : Nat} {u v x : Value} (h : CellsAt W b #[u, v, x] 32) : (W.cell? ⟨b, 0, none⟩ = some u ∧ W.cell? ⟨b, 1, none⟩ = some v ∧ W.cell? ⟨b, 2, none⟩ = some x) ∧ W.frozen? ⟨b, 0, none⟩ = false ∧ W.frozen? ⟨b, 1, none⟩ = false ∧ W.frozen? ⟨b, 2, none⟩ = false := ⟨h.three, h.frozen 0, h.frozen 1, h.frozen 2⟩
theorem Own2.aside {w w' : World} {base b : Nat} {a : Option Addr} {cap : Nat} {zs : List Ld} (h : Own2 w base a cap zs) (hg : w.grownBy w' (.some b)) (hb : b < base) : Own2 w' base a cap zs := h.past hg hb

theorem rd_put {wd w' : World} {r P b : Nat} (hr : Rd wd r P) (hg : wd.grownBy w' (some b)) (hb : r < b) : Rd w' r P := hr.kept fun k hk => hg.block k (by have := hr.lt; omega) (by simp; omega)
theorem grown_put {w wd w' : World} {r b : Nat} (h : w.grownBy wd (some r)) (hg : wd.grownBy w' (some b)) (hb : w.heap.size ≤ b) : w.grownBy w' (some r) :=
  ⟨hg.os.trans h.os, hg.tape.trans h.tape, hg.output.trans h.output, Nat.le_trans h.size hg.size, fun k hk hn => (hg.block k (Nat.lt_of_lt_of_le hk h.size) (by simp; omega)).trans (h.block k hk hn)⟩
def BaseD (w0 : World) (b r Q : Nat) (W : World) (u v x : Value) : Prop := CellsAt W b #[u, v, x] 32 ∧ CellsAt W w0.heap.size #[.int .i64 0, .string ⟨#[]⟩, .slice none 0 0] 32 ∧ Rd W r Q ∧ w0.grownBy W (some r)
theorem BaseD.put {w0 W : World} {b r Q : Nat} {u v x : Value} (h : BaseD w0 b r Q W u v x) (hb : w0.heap.size < b) (hr : r < w0.heap.size) (p q t : Value) : BaseD w0 b r Q (((W.setCell ⟨b, 0, none⟩ p).setCell ⟨b, 1, none⟩ q).setCell ⟨b, 2, none⟩ t) p q t :=
  ⟨h.1.put3 p q t, h.2.1.kept (put3_past W b p q t) (by simp; omega), rd_put h.2.2.1 (put3_past W b p q t) (by omega), grown_put h.2.2.2 (put3_past W b p q t) (by omega)⟩
theorem BaseD.aside {w0 W : World} {b c r Q : Nat} {u v x : Value} (h : BaseD w0 b r Q W u v x) (hc : w0.heap.size < c) (hne : c ≠ b) (hr : r < w0.heap.size) (p q t : Value) : BaseD w0 b r Q (((W.setCell ⟨c, 0, none⟩ p).setCell ⟨c, 1, none⟩ q).setCell ⟨c, 2, none⟩ t) u v x :=
  ⟨h.1.kept (put3_past W c p q t) (by simp; omega), h.2.1.kept (put3_past W c p q t) (by simp; omega), rd_put h.2.2.1 (put3_past W c p q t) (by omega), grown_put h.2.2.2 (put3_past W c p q t) (by omega)⟩
theorem BaseD.alloc {w0 W : World} {b r Q : Nat} {u v x : Value} (h : BaseD w0 b r Q W u v x) (X : Obj) : BaseD w0 b r Q (W.alloc X) u v x :=
  ⟨h.1.grown (World.grownBy_alloc _ _ none), h.2.1.grown (World.grownBy_alloc _ _ none), h.2.2.1.alloc _, grownBy_trans h.2.2.2 (World.grownBy_alloc _ _ _)⟩
theorem Own2.put3 {W : World} {base b : Nat} {a : Option Addr} {cap : Nat} {xs : List Ld} (o : Own2 W base a cap xs) (hB : DkB W b) (p q t : Value) : Own2 (((W.setCell ⟨b, 0, none⟩ p).setCell ⟨b, 1, none⟩ q).setCell ⟨b, 2, none⟩ t) base a cap xs := by
  have := Own2.sets [(0, p), (1, q), (2, t)] W o hB
  simp only [setsO] at this
  exact this
theorem DkL.mk {w0 W : World} {b r Q P j : Nat} {m : Int} {s : List UInt8} {xs : List Ld} {a : Option Addr} {cap : Nat} {k : Value} (h : BaseD w0 b r Q W (.int .i64 m) (.string (bs s)) (.slice a xs.length cap)) (o : Own2 W w0.heap.size a cap xs) (hk : k = .int .i64 j) (hj : j ≤ 5) (hx : xs.length + j ≤ 5) (hQ : Q ≤ P + 502 - j * 100) : DkL w0 b r P k W :=
  ⟨j, ((m, s), xs), a, cap, hk, hj, hx, h.1, o, h.2.2.1.mono hQ, h.2.2.2, h.2.1⟩
/-- What is told of the draw of a deed. -/
def DeedC : Prop := ∀ (w : World) (r P : Nat), Rd w r P → P ≤ 60000 → Calls Tryz.prog 95 #[.pointer (some ⟨r, 0, none⟩)] w fun e w' => ∃ D : Dd, e = .returned (.agg #[.int .i64 D.1, .int .i64 D.2.1, .string (bs D.2.2)]) ∧ D.2.2.length ≤ 100 ∧ Rd w' r (P + 100) ∧ w.grownBy w' (some r)

/-- The model's DeskDo as the draw needs it. -/
theorem sdo_drawn (m : Int) (s : List UInt8) (xs : List Ld) (a : Option Addr) (cap : Nat) (w0 : Nat) (hl : xs.length ≤ 5) (w : World) (D : Dd) (ho : Own2 w w0 a cap xs) (hw : w0 ≤ w.heap.size) :
    Calls Tryz.prog 61 #[.agg #[.int .i64 m, .string (bs s), .slice a xs.length cap], .agg #[.int .i64 D.1, .int .i64 D.2.1, .string (bs D.2.2)]] w fun e w' =>
      ∃ (m2 : Int) (s2 : List UInt8) (xs2 : List Ld) (ok : Bool) (a2 : Option Addr) (cap2 : Nat), e = .returned (.tuple #[.agg #[.int .i64 m2, .string (bs s2), .slice a2 xs2.length cap2], .bool ok]) ∧ (ok = true → xs2.length ≤ xs.length + 1 ∧ Own2 w' w0 a2 cap2 xs2) ∧ w.grownBy w' none := by
  refine (sdo_any ((m, s), xs) D a cap w ho.at ho.bare).mono ?_
  rintro e w' hS
  have hn := doR_len (d := ((m, s), xs)) (D := D)
  generalize doR ((m, s), xs) D = R at *
  obtain ⟨⟨⟨m2, s2⟩, xs2⟩, ok⟩ := R
  obtain ⟨a2, cap2, rfl, _, _, hg, h7⟩ := hS
  refine ⟨m2, s2, xs2, ok, a2, cap2, rfl, fun h => ?_, hg⟩
  have := hn h
  change xs2.length ≤ xs.length + 1 at this
  exact ⟨this, (h7 (by show xs2.length ≤ 7; omega)).mono hw⟩
/-- A new block for a desk ahead of a call and behind it. -/
theorem nf_1 {W0 wb : World} {r : Nat} (hg : (W0.alloc (.cells #[.int .i64 0, .string ⟨#[]⟩, .slice none 0 0] 32)).grownBy wb (some r)) (hr : r < W0.heap.size) : CellsAt wb W0.heap.size #[.int .i64 0, .string ⟨#[]⟩, .slice none 0 0] 32 := (CellsAt.new W0 _ _).kept hg (by simp; omega)
theorem nf_2 {wb wd : World} (hg : (wb.alloc (.cells #[.int .i64 0, .string ⟨#[]⟩, .slice none 0 0] 32)).grownBy wd none) : CellsAt wd wb.heap.size #[.int .i64 0, .string ⟨#[]⟩, .slice none 0 0] 32 := (CellsAt.new wb _ _).grown hg

theorem desk_end {w W : World} {b r Q P : Nat} {m : Int} {s : ByteArray} {a : Option Addr} {cap L : Nat} {xs : List Ld} (h : BaseD w b r Q W (.int .i64 m) (.string s) (.slice a L cap)) (o : Own2 W w.heap.size a cap xs) (hL : L = xs.length) (hr : r < w.heap.size) (hQ : Q ≤ P + 700) :
    CellsAt (((W.setCell ⟨w.heap.size, 0, none⟩ (.int .i64 m)).setCell ⟨w.heap.size, 1, none⟩ (.string s)).setCell ⟨w.heap.size, 2, none⟩ (.slice a L cap)) w.heap.size #[.int .i64 m, .string s, .slice a L cap] 32 ∧ DDPost r P w (.returned (.agg #[.int .i64 m, .string s, .slice a L cap])) (((W.setCell ⟨w.heap.size, 0, none⟩ (.int .i64 m)).setCell ⟨w.heap.size, 1, none⟩ (.string s)).setCell ⟨w.heap.size, 2, none⟩ (.slice a L cap)) := by
  subst hL
  exact ⟨h.2.1.put3 _ _ _, ((m, bl s), xs), a, cap, rfl, o.put3 ⟨_, h.2.1⟩ _ _ _, (rd_put h.2.2.1 (put3_past W _ _ _ _) hr).mono hQ, grown_put h.2.2.2 (put3_past W _ _ _ _) (Nat.le_refl _)⟩
theorem BaseD.set {w0 W : World} {b r Q : Nat} {u v x : Value} (h : BaseD w0 b r Q W u v x) (hb : w0.heap.size < b) (hr : r < w0.heap.size) (i : Nat) (p : Value) : CellsAt (W.setCell ⟨b, i, none⟩ p) w0.heap.size #[.int .i64 0, .string ⟨#[]⟩, .slice none 0 0] 32 ∧ Rd (W.setCell ⟨b, i, none⟩ p) r Q ∧ w0.grownBy (W.setCell ⟨b, i, none⟩ p) (some r) :=
  ⟨h.2.1.kept (grownBy_set W b i p) (by simp; omega), rd_put h.2.2.1 (grownBy_set W b i p) (by omega), grown_put h.2.2.2 (grownBy_set W b i p) (by omega)⟩
theorem beside_own {W W' : World} {base b : Nat} {a : Option Addr} {cap : Nat} {xs : List Ld} {vs : Array Value} (h : CellsAt W b vs 32) (o : Own2 W base a cap xs) (hg : W.grownBy W' (Value.slice a xs.length cap).ownBlock) : CellsAt W' b vs 32 := by
  refine h.kept hg fun e => ?_
  rcases o.2 with ⟨h0, _⟩ | ⟨g, c, cur, he, hb, hgg, _⟩
  · rw [h0] at e; cases e
  · rw [he] at e
    cases e
    unfold CellsAt at h
    rw [hgg] at h
    simp at h
theorem BaseD.own {w0 W W' : World} {b r Q : Nat} {u v x : Value} {a : Option Addr} {cap : Nat} {xs : List Ld} (h : BaseD w0 b r Q W u v x) (o : Own2 W w0.heap.size a cap xs) (hr : r < w0.heap.size) (hg : W.grownBy W' (Value.slice a xs.length cap).ownBlock) : BaseD w0 b r Q W' u v x := by
  have hlt := World.ownsRow.lt o
  refine ⟨beside_own h.1 o hg, beside_own h.2.1 o hg, h.2.2.1.kept fun k hk => hg.block k (by have := h.2.2.1.lt; omega) fun e => ?_, ?_⟩
  · have := hlt k e.symm
    omega
  · have g := h.2.2.2
    exact ⟨hg.os.trans g.os, hg.tape.trans g.tape, hg.output.trans g.output, Nat.le_trans g.size hg.size, fun k hk hn => (hg.block k (Nat.lt_of_lt_of_le hk g.size) (fun e => by have := hlt k e.symm; omega)).trans (g.block k hk hn)⟩

theorem dkB_at {W : World} {b : Nat} {vs : Array Value} (h : CellsAt W b vs 32) : DkB W b := ⟨vs, h⟩

end Go.Proofs.YtlnffpofbfigaaaGreatDoor

/-
  A deed's text read: impl's ReadDeed.
-/
namespace Go.Proofs.YtlnffpofbfigaaaGreatDoor
open Go.RowKit

theorem resDdB {fn : Func} {p u : Tmp} (h : fn.results = #[.cell p 40, .tmp u]) (tmps : Array Value) {w : World} {B : Nat} {x y z b : Value} (hp : tmps.getD p undef = .pointer (some ⟨B, 0, none⟩)) (hu : tmps.getD u undef = b) (hB : CellsAt w B #[x, y, z] 40) :
    (results fn tmps).run Tryz.prog w = .ok (.tuple #[.agg #[x, y, z], b]) w := by
  rw [results_cell_tmp h, hp, hu]
  have := run_loadVar_row w B 40 40 #[x, y, z] (0, 0) _ hB Tryz.underlying40 rfl sizeDd
  simp only [asAddr, Sem.run_pure, Result.andThen_ok, this]
/-- What is answered where a text is read. -/
def rdV (l : List UInt8) : Value := match rdD l with | some a => .tuple #[ddV a, .bool true] | none => .tuple #[ddV nilDd, .bool false]
def RdDPost (l : List UInt8) (w : World) (e : Ending) (w' : World) : Prop := e = .returned (rdV l) ∧ w.grownBy w' none
theorem rdV_some {l : List UInt8} {a : Dd} (h : rdD l = some a) : rdV l = .tuple #[ddV a, .bool true] := by unfold rdV; rw [h]
theorem rdV_none {l : List UInt8} (h : rdD l = none) : rdV l = .tuple #[ddV nilDd, .bool false] := by unfold rdV; rw [h]

theorem ErAt.past {w w' : World} {b : Nat} (h : ErAt w) (hg : w.grownBy w' (some b)) (hs : 3 ≠ b) (hr : 4 ≠ b) : ErAt w' := by
  obtain ⟨⟨a, b, h1⟩, ⟨c, d, h2⟩⟩ := h
  exact ⟨⟨a, b, (World.cell?_of_block (w := w) (hg.block _ (World.block_lt_of_cell? w _ h1) (by simpa using hs))).trans h1⟩, ⟨c, d, (World.cell?_of_block (w := w) (hg.block _ (World.block_lt_of_cell? w _ h2) (by simpa using hr))).trans h2⟩⟩
theorem WdAt.past {w w' : World} {b : Nat} (h : WdAt w) (hg : w.grownBy w' (some b)) (hb : 0 ≠ b) : WdAt w' :=
  ⟨Nat.lt_of_lt_of_le h.1 hg.size, fun i hi => (World.cell?_of_block (w := w) (hg.block _ h.1 (by simpa using hb))).trans (h.2 i hi)⟩
theorem ErAt.lt {w : World} (h : ErAt w) : 3 < w.heap.size ∧ 4 < w.heap.size := by
  obtain ⟨⟨a, b, h1⟩, ⟨c, d, h2⟩⟩ := h
  exact ⟨World.block_lt_of_cell? w _ h1, World.block_lt_of_cell? w _ h2⟩

/-- What lies where while a text is read: the answer's box, the deed's box. -/
def RdS (w W : World) (b : Nat) (u v x : Value) : Prop := CellsAt W w.heap.size #[.int .i64 0, .int .i64 0, .string ⟨#[]⟩] 40 ∧ CellsAt W b #[u, v, x] 40 ∧ WdAt W ∧ ErAt W ∧ w.grownBy W none ∧ w.heap.size < b ∧ WdAt w ∧ ErAt w
theorem RdS.new {w w1 : World} (hT : WdAt w) (hE : ErAt w) (hg : (w.alloc (.cells #[.int .i64 0, .int .i64 0, .string ⟨#[]⟩] 40)).grownBy w1 none) (u v x : Value) : RdS w (w1.alloc (.cells #[u, v, x] 40)) w1.heap.size u v x :=
  have g := grownBy_trans (grownBy_trans (World.grownBy_alloc _ _ none) hg) (World.grownBy_alloc w1 (.cells #[u, v, x] 40) none)
  have h1 := (CellsAt.new w #[.int .i64 0, .int .i64 0, .string ⟨#[]⟩] 40).grown hg
  ⟨h1.grown (World.grownBy_alloc _ _ none), CellsAt.new _ _ _, hT.grown g, hE.grown g, g, h1.lt, hT, hE⟩
theorem RdS.grown {w W W' : World} {b : Nat} {u v x : Value} (h : RdS w W b u v x) (g : W.grownBy W' none) : RdS w W' b u v x :=
  ⟨h.1.grown g, h.2.1.grown g, h.2.2.1.grown g, h.2.2.2.1.grown g, grownBy_trans h.2.2.2.2.1 g, h.2.2.2.2.2⟩
theorem RdS.set {w W : World} {b : Nat} {u v x : Value} (h : RdS w W b u v x) (y z : Value) : RdS w ((W.setCell ⟨b, 1, none⟩ y).setCell ⟨b, 2, none⟩ z) b u y z := by
  obtain ⟨h1, h2, h3, h4, h5, h6, h7, h8⟩ := h
  have l1 := h7.1
  have l2 := h8.lt
  have g1 := grownBy_set W b 1 y
  have g2 := grownBy_set (W.setCell ⟨b, 1, none⟩ y) b 2 z
  exact ⟨(h1.kept g1 (by simp; omega)).kept g2 (by simp; omega), (h2.set 1 y).set 2 z, (h3.past g1 (by omega)).past g2 (by omega), (h4.past g1 (by omega) (by omega)).past g2 (by omega) (by omega), grownBy_put (grownBy_put h5 (by omega) 1 y) (by omega) 2 z, h6, h7, h8⟩
theorem RdS.facts {w W : World} {b : Nat} {u v x : Value} (h : RdS w W b u v x) : ((W.cell? ⟨b, 0, none⟩ = some u ∧ W.cell? ⟨b, 1, none⟩ = some v ∧ W.cell? ⟨b, 2, none⟩ = some x) ∧ W.frozen? ⟨b, 0, none⟩ = false ∧ W.frozen? ⟨b, 1, none⟩ = false ∧ W.frozen? ⟨b, 2, none⟩ = false) ∧ (W.cell? ⟨w.heap.size, 0, none⟩ = some (.int .i64 0) ∧ W.cell? ⟨w.heap.size, 1, none⟩ = some (.int .i64 0) ∧ W.cell? ⟨w.heap.size, 2, none⟩ = some (.string ⟨#[]⟩)) ∧ W.frozen? ⟨w.heap.size, 0, none⟩ = false ∧ W.frozen? ⟨w.heap.size, 1, none⟩ = false ∧ W.frozen? ⟨w.heap.size, 2, none⟩ = false := ⟨set_facts h.2.1, set_facts h.1⟩
theorem RdS.fin {w W : World} {b : Nat} {u v x : Value} (h : RdS w W b u v x) (p q r : Value) : CellsAt (((W.setCell ⟨w.heap.size, 0, none⟩ p).setCell ⟨w.heap.size, 1, none⟩ q).setCell ⟨w.heap.size, 2, none⟩ r) w.heap.size #[p, q, r] 40 ∧ w.grownBy (((W.setCell ⟨w.heap.size, 0, none⟩ p).setCell ⟨w.heap.size, 1, none⟩ q).setCell ⟨w.heap.size, 2, none⟩ r) none :=
  ⟨h.1.put3 _ _ _, grownBy_put (grownBy_put (grownBy_put h.2.2.2.2.1 (Nat.le_refl _) 0 p) (Nat.le_refl _) 1 q) (Nat.le_refl _) 2 r⟩

set_option maxRecDepth 8000 in
set_option maxHeartbeats 4000000 in
theorem ird_nil (w : World) (hT : WdAt w) (hE : ErAt w) :
    Calls Tryz.prog 44 #[.string ⟨#[]⟩] w (RdDPost [] w) := by
  have cc := cut_any [] 32
  have ek : kindI (Lib.cut [] [32]).1 = -1 := by decide +kernel
  have hw := rdV_none (wrote_no (s := []) (.inl rfl))
  unfold RdDPost
  rw [hw]
  unfold CutD at cc
  unfold ddV nilDd
  have HT := Lib.hid hT
  have HE := Lib.hid hE
  clear hT hw hE
  go_enter Tryz.func44, Tryz.ntmps44
  go_wp2_with (first | (go_at_call 43; refine (cc _ (by decide)).mono ?_; rintro e w1 ⟨rfl, hg⟩; have hT1 := HT.out.grown (grownBy_trans (World.grownBy_alloc _ _ none) hg); have S0 := Lib.hid (RdS.new HT.out HE.out hg (.int .i64 (-1)) (.int .i64 0) (.string (bs (Lib.cut [] [32]).2.1))); obtain ⟨⟨⟨x0, x1, x2⟩, y0, y1, y2⟩, ⟨z0, z1, z2⟩, v0, v1, v2⟩ := S0.out.facts; clear hg) | (go_at_call 92; refine (kind_any _ _ hT1).mono ?_; rw [ek]; rintro e w2 ⟨rfl, rfl⟩))
  have E := S0.out.fin (.int .i64 0) (.int .i64 0) (.string ⟨#[]⟩)
  exact bodyPost_ret (resDdB rfl _ rfl rfl E.1) rfl ⟨rfl, E.2⟩

set_option maxRecDepth 8000 in
set_option maxHeartbeats 4000000 in
/-- Another word than a chain's. -/
theorem ird_word (l : List UInt8) (K : Int) (T B : List UInt8) (f : Bool) (w : World) (hT : WdAt w) (hE : ErAt w) (h0 : l ≠ []) (ht : (Lib.cut l [32]) = (T, B, f)) (hk : kindI T = K) (hK : K ≠ 0) (hl : l.length ≤ L48) :
    Calls Tryz.prog 44 #[.string (bs l)] w (RdDPost l w) := by
  have cc := cut_any l 32
  have hw : wroteA l = (K, 0, B) := by unfold wroteA; rw [ht, hk]; exact if_neg hK
  have he := empty_bs h0
  have hK0 : (K == 0) = false := beq_false_of_ne hK
  unfold CutD at cc
  rw [ht] at cc
  unfold RdDPost
  have HT := Lib.hid hT
  have HE := Lib.hid hE
  have HL := Lib.hid hl
  have HK := Lib.hid hk
  have ci := fun w hT => itx_any (K, 0, B) w hT
  unfold TxPost ddV at ci
  clear hT hE hl hk hK ht
  by_cases hx : txD (K, 0, B) = l
  · have hr := rdV_some (wrote_yes h0 (by rw [hw]; exact hx))
    rw [hw] at hr
    rw [hr]
    rw [hx] at ci
    unfold ddV
    clear hr hw hx h0
    go_enter Tryz.func44, Tryz.ntmps44
    go_wp2_with (first | (go_at_call 43; refine (cc _ HL.out).mono ?_; rintro e w1 ⟨rfl, hg⟩; have hT1 := HT.out.grown (grownBy_trans (World.grownBy_alloc _ _ none) hg); have S0 := Lib.hid (RdS.new HT.out HE.out hg (.int .i64 K) (.int .i64 0) (.string (bs B))); obtain ⟨⟨⟨x0, x1, x2⟩, y0, y1, y2⟩, ⟨z0, z1, z2⟩, v0, v1, v2⟩ := S0.out.facts; clear hg) | (go_at_call 92; refine (kind_any _ _ hT1).mono ?_; rw [HK.out]; rintro e w2 ⟨rfl, rfl⟩) | (go_at_call 15; refine (ci _ S0.out.2.2.1).mono ?_; rintro e w2 ⟨rfl, hg⟩; have S1 := Lib.hid (S0.out.grown hg); obtain ⟨⟨⟨p0, p1, p2⟩, q0, q1, q2⟩, ⟨r0, r1, r2⟩, s0, s1, s2⟩ := S1.out.facts; clear hg))
    have E := S1.out.fin (.int .i64 K) (.int .i64 0) (.string (bs B))
    exact bodyPost_ret (resDdB rfl _ rfl rfl E.1) rfl ⟨rfl, E.2⟩
  · have hr := rdV_none (wrote_no (s := l) (.inr (by rw [hw]; exact hx)))
    rw [hr]
    have hne := bs_ne hx
    rw [← toL_bs (txD (K, 0, B))] at hne
    generalize txD (K, 0, B) = X at *
    unfold ddV nilDd
    clear hr hw hx h0
    go_enter Tryz.func44, Tryz.ntmps44
    go_wp2_with (first | (go_at_call 43; refine (cc _ HL.out).mono ?_; rintro e w1 ⟨rfl, hg⟩; have hT1 := HT.out.grown (grownBy_trans (World.grownBy_alloc _ _ none) hg); have S0 := Lib.hid (RdS.new HT.out HE.out hg (.int .i64 K) (.int .i64 0) (.string (bs B))); obtain ⟨⟨⟨x0, x1, x2⟩, y0, y1, y2⟩, ⟨z0, z1, z2⟩, v0, v1, v2⟩ := S0.out.facts; clear hg) | (go_at_call 92; refine (kind_any _ _ hT1).mono ?_; rw [HK.out]; rintro e w2 ⟨rfl, rfl⟩) | (go_at_call 15; refine (ci _ S0.out.2.2.1).mono ?_; rintro e w2 ⟨rfl, hg⟩; have S1 := Lib.hid (S0.out.grown hg); obtain ⟨⟨⟨p0, p1, p2⟩, q0, q1, q2⟩, ⟨r0, r1, r2⟩, s0, s1, s2⟩ := S1.out.facts; clear hg))
    have E := S1.out.fin (.int .i64 0) (.int .i64 0) (.string ⟨#[]⟩)
    exact bodyPost_ret (resDdB rfl _ rfl rfl E.1) rfl ⟨rfl, E.2⟩

end Go.Proofs.YtlnffpofbfigaaaGreatDoor

/-
  Lines that ask whether the formula follows, and for its value: the landed code's.
-/
namespace Go.Proofs.YtlnffpofbfigaaaGreatDoor
open Go.RowKit

def fromA (n : Int) (l t : List UInt8) : ByteArray := if isF t = true then yesA (folI n [t] l) else whatA

set_option maxRecDepth 8000 in
set_option maxHeartbeats 2000000 in
theorem from_any (N : Nat) (s t : List UInt8) (x : Value) (w : World) :
    Calls Tryz.prog 100 #[.agg #[.int .i64 N, .string (bs s), x], .string (bs t)] w (AnPost (fromA N s t) w) := by
  have g1 := Lib.hid (World.grownBy_alloc w (.cells #[.int .i64 N, .string (bs s), x] 32) none)
  have HB := Lib.hid (CellsAt.new w #[.int .i64 N, .string (bs s), x] 32)
  have cf := form_any (bs t)
  rw [bl_bs] at cf
  unfold fromA
  cases hq : isF t with
  | false =>
    rw [hq] at cf
    simp only [Bool.false_eq_true, if_false]
    clear hq
    generalize bs t = T at *
    go_enter Tryz.func100, Tryz.ntmps100
    go_wp2_with (first | (go_at_call 55; (with_reducible refine (cf _).mono ?_); rintro e w2 ⟨rfl, hg⟩))
    go_ret
    exact ⟨rfl, grownBy_trans g1.out hg⟩
  | true =>
    rw [hq] at cf
    simp only [if_true]
    have cF : ∀ (W : World) (b : Nat), W.cell? ⟨b, 0, none⟩ = some (.string (bs t)) → Calls Tryz.prog 135 #[.int .i64 N, .slice (some ⟨b, 0, none⟩) 1 1, .string (bs s)] W fun e w' => e = .returned (.bool (folI N [t] s)) ∧ W.grownBy w' none := fun W b hc => by
      have := ff_any N (some ⟨b, 0, none⟩) 1 [bs t] (bs s) W ⟨by unfold maxLen; simp, .inr ⟨b, 0, rfl, World.block_lt_of_cell? W _ hc, fun i hi => by
        have : i = 0 := by simpa using hi
        subst this
        exact hc⟩⟩
      rw [List.map_cons, List.map_nil, bl_bs, bl_bs] at this
      exact this
    generalize folI N [t] s = b at *
    have cy := iyes_any b
    generalize yesA b = Y at *
    clear hq
    have hcn : Hid (∀ W : World, (W.alloc (.cells #[.string (bs t)] 9)).cell? ⟨W.heap.size, 0, none⟩ = some (.string (bs t))) := Lib.hid fun W => (CellsAt.new W _ _).cell rfl
    generalize bs t = T at *
    go_enter Tryz.func100, Tryz.ntmps100
    go_wp2_with fail
    refine (cf _).mono ?_
    rintro e w2 ⟨rfl, hg⟩
    obtain ⟨c0, c1, c2⟩ := (HB.out.grown hg).three
    obtain ⟨e0, e1, e2⟩ := ((HB.out.grown hg).grown (World.grownBy_alloc w2 (.cells #[.string T] 9) none)).three
    have G2 := Lib.hid (grownBy_trans (grownBy_trans g1.out hg) (World.grownBy_alloc w2 (.cells #[.string T] 9) none))
    clear hg cf
    go_wp2_with (first | (go_at_call 135; (with_reducible refine (cF _ _ (hcn.out _)).mono ?_); rintro e w3 ⟨rfl, hg3⟩) | (go_at_call 134; (with_reducible refine (cy _).mono ?_); rintro e w4 ⟨rfl, rfl⟩))
    go_ret
    exact ⟨rfl, grownBy_trans G2.out hg3⟩

def atA (n : Int) (l t : List UInt8) : ByteArray :=
  match cutL 32 t with
  | [x, y, z] => ansA n l x y z
  | _ => whatA
theorem atA_no {n : Int} {l t : List UInt8} (h : (cutL 32 t).length ≠ 3) : atA n l t = whatA := by
  unfold atA
  split
  · rename_i e; rw [e] at h; exact absurd rfl h
  · rfl
theorem atA_yes {n : Int} {l t x y z : List UInt8} (h : cutL 32 t = [x, y, z]) : atA n l t = ansA n l x y z := by unfold atA; rw [h]
theorem cut_three {s a b c : List UInt8} (h : cutL 32 s = [a, b, c]) : s = a ++ 32 :: (b ++ 32 :: c) := by
  have := cutL_join 32 s
  rw [h] at this
  rw [← this]
  rfl
def asV (dx dy dz : Int) : Nat → Array Value
  | 0 => #[.int .i64 0, .int .i64 0, .int .i64 0]
  | 1 => #[.int .i64 dx, .int .i64 0, .int .i64 0]
  | 2 => #[.int .i64 dx, .int .i64 dy, .int .i64 0]
  | _ => #[.int .i64 dx, .int .i64 dy, .int .i64 dz]
def AtR (w : World) (bw : Nat) (desk : Array Value) (ws : List (List UInt8)) (dx dy dz : Int) (k : Nat) (wr : World) : Prop :=
  CellsAt wr (w.heap.size + 1) (asV dx dy dz k) 145 ∧ WordsAt wr bw ws ∧ CellsAt wr w.heap.size desk 32 ∧ ErAt wr ∧ w.grownBy wr none ∧ w.heap.size + 1 < bw
theorem AtR.grown {w wr w' : World} {bw : Nat} {desk : Array Value} {ws : List (List UInt8)} {dx dy dz : Int} {k : Nat} (h : AtR w bw desk ws dx dy dz k wr) (g : wr.grownBy w' none) : AtR w bw desk ws dx dy dz k w' :=
  ⟨h.1.grown g, CellsAt.grown h.2.1 g, h.2.2.1.grown g, h.2.2.2.1.grown g, grownBy_trans h.2.2.2.2.1 g, h.2.2.2.2.2⟩
theorem at_frame {w wr : World} (g : w.grownBy wr none) (i : Nat) (v : Value) : w.grownBy (wr.setCell ⟨w.heap.size + 1, i, none⟩ v) none :=
  ⟨g.os, g.tape, g.output, by have := g.size; simpa [World.setCell] using this, fun k hk _ => (Below.heap_setCell wr ⟨w.heap.size + 1, i, none⟩ v k (by simp; omega)).trans (g.block k hk (by simp))⟩
theorem AtR.set {w wr : World} {bw : Nat} {desk : Array Value} {ws : List (List UInt8)} {dx dy dz : Int} {k : Nat} (h : AtR w bw desk ws dx dy dz k wr) (i : Nat) (v : Value) (he : (asV dx dy dz k).setIfInBounds i v = asV dx dy dz (k + 1)) (hS : 3 < w.heap.size ∧ 4 < w.heap.size) : AtR w bw desk ws dx dy dz (k + 1) (wr.setCell ⟨w.heap.size + 1, i, none⟩ v) := by
  obtain ⟨h1, h2, h3, h4, h5, h6⟩ := h
  have gp : wr.grownBy (wr.setCell ⟨w.heap.size + 1, i, none⟩ v) (some (w.heap.size + 1)) := grownBy_set wr _ i v
  refine ⟨by rw [← he]; exact h1.set i v, CellsAt.kept h2 gp (by simp; omega), h3.kept gp (by simp), ErAt.past h4 gp (by omega) (by omega), at_frame h5 i v, h6⟩
def AtRel (w : World) (bw : Nat) (desk : Array Value) (ws : List (List UInt8)) (dx dy dz : Int) (iv : Value) (wr : World) : Prop :=
  ∃ k : Nat, k ≤ 3 ∧ iv = .int .i64 k ∧ (0 < k → 0 ≤ dx) ∧ (1 < k → 0 ≤ dy) ∧ (2 < k → 0 ≤ dz) ∧ AtR w bw desk ws dx dy dz k wr

set_option maxRecDepth 8000 in
set_option maxHeartbeats 4000000 in
theorem iat_any (N : Nat) (s l : List UInt8) (x : Value) (w : World) (hl : l.length ≤ 2097152) (hE : ErAt w) :
    Calls Tryz.prog 99 #[.agg #[.int .i64 N, .string (bs s), x], .string (bs l)] w (AnPost (atA N s l) w) := by
  have cS := split_any l hl
  have gA := Lib.hid (World.grownBy_alloc w (.cells #[.int .i64 N, .string (bs s), x] 32) none)
  have gB := Lib.hid (World.grownBy_alloc (w.alloc (.cells #[.int .i64 N, .string (bs s), x] 32)) (.cells #[.int .i64 0, .int .i64 0, .int .i64 0] 145) none)
  by_cases h3 : (cutL 32 l).length = 3
  · obtain ⟨a, b, c, hc⟩ : ∃ a b c, cutL 32 l = [a, b, c] := by
      match hh : cutL 32 l, h3 with
      | [a, b, c], _ => exact ⟨a, b, c, rfl⟩
    rw [atA_yes hc]
    rw [hc] at cS
    have hlen := congrArg List.length (cut_three hc)
    simp only [List.length_append, List.length_cons] at hlen
    have na := fun W h => num_any a (by unfold L48; omega) W h
    have nb := fun W h => num_any b (by unfold L48; omega) W h
    have nc := fun W h => num_any c (by unfold L48; omega) W h
    unfold NumC at na nb nc
    rw [num_dig] at na nb nc
    have hlt := hE.lt
    have HE := Lib.hid hE
    obtain ⟨Y, hY⟩ : ∃ Y, Y = ansA N s a b c := ⟨_, rfl⟩
    rw [← hY]
    unfold ansA at hY
    have cv := fun W => value_any N (bs s) (digI a) (digI b) (digI c) W
    rw [bl_bs] at cv
    generalize digI a = dx at *
    generalize digI b = dy at *
    generalize digI c = dz at *
    have HY := Lib.hid hY
    clear hY
    have HB := Lib.hid (CellsAt.first w (.cells #[.int .i64 0, .int .i64 0, .int .i64 0] 145) #[.int .i64 N, .string (bs s), x] 32)
    have HV := Lib.hid (CellsAt.second w (.cells #[.int .i64 N, .string (bs s), x] 32) #[.int .i64 0, .int .i64 0, .int .i64 0] 145)
    clear hc h3 hlen hl hE
    generalize bs l = L at *
    go_enter Tryz.func99, Tryz.ntmps99
    go_wp2_with fail
    refine (cS _).mono ?_
    rintro e w2 ⟨rfl, hW, hg⟩
    have hs2 : ((w.alloc (.cells #[.int .i64 N, .string (bs s), x] 32)).alloc (.cells #[.int .i64 0, .int .i64 0, .int .i64 0] 145)).heap.size = w.heap.size + 1 + 1 := by simp
    rw [hs2] at hW
    have H0 := Lib.hid (show AtR w (w.heap.size + 1 + 1) #[.int .i64 N, .string (bs s), x] [a, b, c] dx dy dz 0 w2 from ⟨HV.out.grown hg, hW, HB.out.grown hg, HE.out.grown (grownBy_trans gA.out (grownBy_trans gB.out hg)), grownBy_trans gA.out (grownBy_trans gB.out hg), by omega⟩)
    clear hW hg cS hs2 gA gB HB HV
    go_wp2_with fail
    go_loopw [14] (fun iv wr => AtRel w (w.heap.size + 1 + 1) #[.int .i64 N, .string (bs s), x] [a, b, c] dx dy dz iv wr) (fun iv _ => 3 - (intOf iv).toNat)
    case atStart => exact ⟨0, by omega, rfl, by omega, by omega, by omega, H0.out⟩
    case round =>
      obtain ⟨k, hk, rfl, p1, p2, p3, hR⟩ := hrel
      have HR := Lib.hid hR
      have P1 := Lib.hid p1
      have P2 := Lib.hid p2
      have P3 := Lib.hid p3
      have f := HR.out.1
      clear hR p1 p2 p3
      match k, hk with
      | 0, _ =>
        have c0 := WordsAt.cell (i := 0) (t := a) HR.out.2.1 rfl
        go_wp2_with fail
        refine (na _ HR.out.2.2.2.1).mono ?_
        rintro e w3 ⟨rfl, g3⟩
        have H3 := Lib.hid (HR.out.grown g3)
        have HS := Lib.hid (H3.out.set 0 (.int .i64 dx) rfl hlt)
        have f3 := H3.out.1
        have fz := f3.frozen 0
        have e0 := CellsAt.cell (i := 0) (v := .int .i64 0) f3 rfl
        have e1 := CellsAt.cell (i := 0) (v := .int .i64 dx) HS.out.1 rfl
        have HF := Lib.hid f3
        clear g3 f3 c0 f
        by_cases hneg : dx < 0
        · go_wp2_with fail
          go_ret
          exact ⟨by rw [HY.out, if_pos (.inl hneg)]; rfl, HS.out.2.2.2.2.1⟩
        · go_wp2_with fail
          go_roundw
          case rel => exact ⟨1, by omega, rfl, by have := P1.out; have := P2.out; omega, by have := P2.out; omega, by omega, HS.out⟩
          case measure => simp [intOf]
      | 1, _ =>
        have c0 := WordsAt.cell (i := 1) (t := b) HR.out.2.1 rfl
        go_wp2_with fail
        refine (nb _ HR.out.2.2.2.1).mono ?_
        rintro e w3 ⟨rfl, g3⟩
        have H3 := Lib.hid (HR.out.grown g3)
        have HS := Lib.hid (H3.out.set 1 (.int .i64 dy) rfl hlt)
        have f3 := H3.out.1
        have fz := f3.frozen 1
        have e0 := CellsAt.cell (i := 1) (v := .int .i64 0) f3 rfl
        have e1 := CellsAt.cell (i := 1) (v := .int .i64 dy) HS.out.1 rfl
        have HF := Lib.hid f3
        clear g3 f3 c0 f
        by_cases hneg : dy < 0
        · go_wp2_with fail
          go_ret
          exact ⟨by rw [HY.out, if_pos (.inr (.inl hneg))]; rfl, HS.out.2.2.2.2.1⟩
        · go_wp2_with fail
          go_roundw
          case rel => exact ⟨2, by omega, rfl, by have := P1.out; have := P2.out; omega, by have := P2.out; omega, by omega, HS.out⟩
          case measure => simp [intOf]
      | 2, _ =>
        have c0 := WordsAt.cell (i := 2) (t := c) HR.out.2.1 rfl
        go_wp2_with fail
        refine (nc _ HR.out.2.2.2.1).mono ?_
        rintro e w3 ⟨rfl, g3⟩
        have H3 := Lib.hid (HR.out.grown g3)
        have HS := Lib.hid (H3.out.set 2 (.int .i64 dz) rfl hlt)
        have f3 := H3.out.1
        have fz := f3.frozen 2
        have e0 := CellsAt.cell (i := 2) (v := .int .i64 0) f3 rfl
        have e1 := CellsAt.cell (i := 2) (v := .int .i64 dz) HS.out.1 rfl
        have HF := Lib.hid f3
        clear g3 f3 c0 f
        by_cases hneg : dz < 0
        · go_wp2_with fail
          go_ret
          exact ⟨by rw [HY.out, if_pos (.inr (.inr hneg))]; rfl, HS.out.2.2.2.2.1⟩
        · go_wp2_with fail
          go_roundw
          case rel => exact ⟨3, by omega, rfl, by have := P1.out; have := P2.out; omega, by have := P2.out; omega, by omega, HS.out⟩
          case measure => simp [intOf]
      | 3, _ =>
        have n1 := P1.out (by omega)
        have n2 := P2.out (by omega)
        have n3 := P3.out (by omega)
        have e0 := CellsAt.cell (i := 0) (v := .int .i64 dx) f rfl
        have e1 := CellsAt.cell (i := 1) (v := .int .i64 dy) f rfl
        have e2 := CellsAt.cell (i := 2) (v := .int .i64 dz) f rfl
        obtain ⟨b0, b1, b2⟩ := HR.out.2.2.1.three
        have HY2 := Lib.hid (HY.out.trans (if_neg (by omega)))
        generalize valI N s dx dy dz = v at *
        have ct := text_any N v
        unfold StrPost at ct
        go_wp2_with fail
        refine (cv _).mono ?_
        rintro e w3 ⟨rfl, g3⟩
        have H3 := Lib.hid (HR.out.grown g3)
        obtain ⟨b0, b1, b2⟩ := H3.out.2.2.1.three
        clear g3 cv
        by_cases hneg : v < 0
        · go_wp2_with fail
          go_ret
          exact ⟨by rw [HY2.out, if_pos hneg]; rfl, H3.out.2.2.2.2.1⟩
        · have HY3 := Lib.hid (HY2.out.trans (if_neg hneg))
          generalize vtext N v = Z at *
          go_wp2_with (first | (go_at_call 133; (with_reducible refine (ct _).mono ?_); rintro e w4 ⟨rfl, g4⟩))
          go_ret
          exact ⟨by rw [HY3.out]; rfl, grownBy_trans H3.out.2.2.2.2.1 g4⟩
  · rw [atA_no h3]
    have hne : (((cutL 32 l).length : Int) == 3) = false := beq_false_of_ne (by omega)
    have hne2 : ¬ ((cutL 32 l).length = 3) := h3
    generalize (cutL 32 l).length = k at *
    clear hE hl
    generalize bs l = L at *
    go_enter Tryz.func99, Tryz.ntmps99
    go_wp2_with (first | (go_at_call 131; (with_reducible refine (cS _).mono ?_); rintro e w2 ⟨rfl, hW, hg⟩))
    go_ret
    exact ⟨rfl, grownBy_trans gA.out (grownBy_trans gB.out hg)⟩

end Go.Proofs.YtlnffpofbfigaaaGreatDoor

/-
  A deed's text read: impl's ReadDeed where the word is a chain's; and all.
-/
namespace Go.Proofs.YtlnffpofbfigaaaGreatDoor
open Go.RowKit

set_option maxRecDepth 8000 in
set_option maxHeartbeats 4000000 in
theorem ird_chain (l : List UInt8) (T B : List UInt8) (f : Bool) (w : World) (hT : WdAt w) (hE : ErAt w) (h0 : l ≠ []) (ht : (Lib.cut l [32]) = (T, B, f)) (hk : kindI T = 0) (hl : l.length ≤ L48) :
    Calls Tryz.prog 44 #[.string (bs l)] w (RdDPost l w) := by
  have cc := cut_any l 32
  have hw : wroteA l = (0, numI B, []) := by unfold wroteA; rw [ht, hk]; exact if_pos rfl
  have he := empty_bs h0
  have hB : B.length ≤ L48 := by have := (cut_len l 32).2; rw [ht] at this; exact Nat.le_trans this hl
  have cn := fun w hE => num_any B hB w hE
  unfold NumC at cn
  unfold CutD at cc
  rw [ht] at cc
  unfold RdDPost
  have HT := Lib.hid hT
  have HE := Lib.hid hE
  have HL := Lib.hid hl
  have HK := Lib.hid hk
  have ci := fun w hT => itx_any (0, numI B, []) w hT
  unfold TxPost ddV at ci
  rw [show bs ([] : List UInt8) = ⟨#[]⟩ from rfl] at ci
  clear hT hE hl hk ht hB
  by_cases hx : txD (0, numI B, []) = l
  · have hr := rdV_some (wrote_yes h0 (by rw [hw]; exact hx))
    rw [hw] at hr
    rw [hr]
    rw [hx] at ci
    unfold ddV
    clear hr hw hx h0
    generalize numI B = V at *
    go_enter Tryz.func44, Tryz.ntmps44
    go_wp2_with (first | (go_at_call 43; refine (cc _ HL.out).mono ?_; rintro e w1 ⟨rfl, hg⟩; have hT1 := HT.out.grown (grownBy_trans (World.grownBy_alloc _ _ none) hg); have S0 := Lib.hid (RdS.new HT.out HE.out hg (.int .i64 0) (.int .i64 0) (.string (bs B))); obtain ⟨⟨⟨x0, x1, x2⟩, y0, y1, y2⟩, ⟨z0, z1, z2⟩, v0, v1, v2⟩ := S0.out.facts; clear hg) | (go_at_call 92; refine (kind_any _ _ hT1).mono ?_; rw [HK.out]; rintro e w2 ⟨rfl, rfl⟩) | (go_at_call 93; refine (cn _ S0.out.2.2.2.1).mono ?_; rintro e w2 ⟨rfl, hg⟩; have S1 := Lib.hid (S0.out.grown hg); obtain ⟨⟨⟨p0, p1, p2⟩, q0, q1, q2⟩, ⟨r0, r1, r2⟩, s0, s1, s2⟩ := S1.out.facts; have S2 := Lib.hid (S1.out.set (.int .i64 V) (.string ⟨#[]⟩)); obtain ⟨⟨⟨a0, a1, a2⟩, b0, b1, b2⟩, ⟨c0, c1, c2⟩, d0, d1, d2⟩ := S2.out.facts; clear hg) | (go_at_call 15; refine (ci _ S2.out.2.2.1).mono ?_; rintro e w3 ⟨rfl, hg⟩; have S3 := Lib.hid (S2.out.grown hg); obtain ⟨⟨⟨e0, e1, e2⟩, f0, f1, f2⟩, ⟨g0, g1, g2⟩, i0, i1, i2⟩ := S3.out.facts; clear hg))
    have E := S3.out.fin (.int .i64 0) (.int .i64 V) (.string ⟨#[]⟩)
    exact bodyPost_ret (resDdB rfl _ rfl rfl E.1) rfl ⟨rfl, E.2⟩
  · have hr := rdV_none (wrote_no (s := l) (.inr (by rw [hw]; exact hx)))
    rw [hr]
    have hne := bs_ne hx
    rw [← toL_bs (txD (0, numI B, []))] at hne
    generalize txD (0, numI B, []) = X at *
    unfold ddV nilDd
    clear hr hw hx h0
    generalize numI B = V at *
    go_enter Tryz.func44, Tryz.ntmps44
    go_wp2_with (first | (go_at_call 43; refine (cc _ HL.out).mono ?_; rintro e w1 ⟨rfl, hg⟩; have hT1 := HT.out.grown (grownBy_trans (World.grownBy_alloc _ _ none) hg); have S0 := Lib.hid (RdS.new HT.out HE.out hg (.int .i64 0) (.int .i64 0) (.string (bs B))); obtain ⟨⟨⟨x0, x1, x2⟩, y0, y1, y2⟩, ⟨z0, z1, z2⟩, v0, v1, v2⟩ := S0.out.facts; clear hg) | (go_at_call 92; refine (kind_any _ _ hT1).mono ?_; rw [HK.out]; rintro e w2 ⟨rfl, rfl⟩) | (go_at_call 93; refine (cn _ S0.out.2.2.2.1).mono ?_; rintro e w2 ⟨rfl, hg⟩; have S1 := Lib.hid (S0.out.grown hg); obtain ⟨⟨⟨p0, p1, p2⟩, q0, q1, q2⟩, ⟨r0, r1, r2⟩, s0, s1, s2⟩ := S1.out.facts; have S2 := Lib.hid (S1.out.set (.int .i64 V) (.string ⟨#[]⟩)); obtain ⟨⟨⟨a0, a1, a2⟩, b0, b1, b2⟩, ⟨c0, c1, c2⟩, d0, d1, d2⟩ := S2.out.facts; clear hg) | (go_at_call 15; refine (ci _ S2.out.2.2.1).mono ?_; rintro e w3 ⟨rfl, hg⟩; have S3 := Lib.hid (S2.out.grown hg); obtain ⟨⟨⟨e0, e1, e2⟩, f0, f1, f2⟩, ⟨g0, g1, g2⟩, i0, i1, i2⟩ := S3.out.facts; clear hg))
    have E := S3.out.fin (.int .i64 0) (.int .i64 0) (.string ⟨#[]⟩)
    exact bodyPost_ret (resDdB rfl _ rfl rfl E.1) rfl ⟨rfl, E.2⟩

theorem ird_any (l : List UInt8) (w : World) (hT : WdAt w) (hE : ErAt w) (hl : l.length ≤ L48) :
    Calls Tryz.prog 44 #[.string (bs l)] w (RdDPost l w) := by
  by_cases h0 : l = []
  · subst h0; exact ird_nil w hT hE
  · by_cases hk : kindI (Lib.cut l [32]).1 = 0
    · exact ird_chain l _ _ _ w hT hE h0 rfl hk hl
    · exact ird_word l _ _ _ _ w hT hE h0 rfl rfl hk hl

end Go.Proofs.YtlnffpofbfigaaaGreatDoor

/-
  The walk of FnDeedText.
-/
namespace Go.Proofs.YtlnffpofbfigaaaGreatDoor
open Go.RowKit

def DtxPost (w : World) (e : Ending) (w' : World) : Prop := ∃ D : Dd, e = .returned (ddV D) ∧ D.2.2.length ≤ 100 ∧ w.grownBy w' none

theorem tx_len (a : Dd) : (txD a).length ≤ 66 := by
  by_cases h : txD a = []
  · rw [h]; simp
  · have hh := told_of h
    generalize txD a = s at *
    cases hh with
    | chain k h => simp [chainW]
    | say t hf => have := isF_len hf; simp [sayW]; omega
    | times t hf => have := isF_len hf; simp [timesW']; omega
    | ifs t hf => have := isF_len hf; simp [ifW]; omega
    | nots => decide
    | basic => decide
    | back => decide
theorem itx_v (K N : Int) (T : List UInt8) (S : ByteArray) (h : bs (txD (K, N, T)) = S) (w : World) (hT : WdAt w) : Calls Tryz.prog 15 #[.agg #[.int .i64 K, .int .i64 N, .string (bs T)]] w fun e w' => e = .returned (.string S) ∧ w.grownBy w' none := by rw [← h]; exact itx_any (K, N, T) w hT
theorem stx_v (K N : Int) (T : List UInt8) (S : ByteArray) (h : bs (txD (K, N, T)) = S) (w : World) : Calls Tryz.prog 90 #[.agg #[.int .i64 K, .int .i64 N, .string (bs T)]] w fun e w' => e = .returned (.string S) ∧ w.grownBy w' none := by rw [← h]; exact stx_any (K, N, T) w
theorem ird_v (l : List UInt8) (v : Value) (h : rdV l = v) (w : World) (hT : WdAt w) (hE : ErAt w) (hl : l.length ≤ L48) : Calls Tryz.prog 44 #[.string (bs l)] w fun e w' => e = .returned v ∧ w.grownBy w' none := by rw [← h]; exact ird_any l w hT hE hl

end Go.Proofs.YtlnffpofbfigaaaGreatDoor

/-
  Rows of deeds counted, copied and compared: the laws' szDeedS, toDeedS, eqDeedS.
-/
namespace Go.Proofs.YtlnffpofbfigaaaGreatDoor
open Go.RowKit

theorem getDd_mem {xs : List Dd} {k : Nat} (h : k < xs.length) : xs.getD k nilDd ∈ xs := by
  rw [List.getD_eq_getElem?_getD, List.getElem?_eq_getElem h]
  exact List.getElem_mem h
/-- What szDeedS answers with: something below 0, or a number, few deeds and short texts. -/
def SzDPost (xs : List Dd) (w : World) (e : Ending) (w' : World) : Prop := ∃ v : Int, e = .returned (.int .i64 v) ∧ (v < 0 ∨ (0 ≤ v ∧ v ≤ 1048576 ∧ xs.length ≤ 1048576 ∧ ∀ x ∈ xs, x.2.2.length ≤ 1048576)) ∧ w.grownBy w' none
def SzDd (xs : List Dd) (w : World) (i left : Value) (wr : World) : Prop := ∃ (k : Nat) (l : Int), k ≤ xs.length ∧ i = .int .i64 k ∧ left = .int .i64 l ∧ 0 ≤ l ∧ l ≤ 1048576 ∧ (∀ j, j < k → (xs.getD j nilDd).2.2.length ≤ 1048576) ∧ w.grownBy wr none

def CpDd (g : Nat) (xs : List Dd) (w : World) (i : Value) (wr : World) : Prop :=
  ∃ (k : Nat) (vs : List Value), k ≤ xs.length ∧ i = .int .i64 k ∧ wr.ownsRow w.heap.size 40 3 (.slice (some ⟨g, 0, none⟩) xs.length xs.length) xs.length vs ∧ (∀ j, j < k → vs[j * 3]? = some (.int .i64 (xs.getD j nilDd).1) ∧ vs[j * 3 + 1]? = some (.int .i64 (xs.getD j nilDd).2.1) ∧ vs[j * 3 + 2]? = some (.string (bs (xs.getD j nilDd).2.2))) ∧ w.grownBy wr none
theorem own3_copied {g : Nat} {xs : List Dd} {w wr : World} {vs : List Value} (h : wr.ownsRow w.heap.size 40 3 (.slice (some ⟨g, 0, none⟩) xs.length xs.length) xs.length vs) (hx : ∀ j, j < xs.length → vs[j * 3]? = some (.int .i64 (xs.getD j nilDd).1) ∧ vs[j * 3 + 1]? = some (.int .i64 (xs.getD j nilDd).2.1) ∧ vs[j * 3 + 2]? = some (.string (bs (xs.getD j nilDd).2.2))) : Own3 wr w.heap.size (some ⟨g, 0, none⟩) xs.length xs := by
  have e : vs = ddC xs := by
    apply List.ext_getElem?
    intro j
    by_cases hj : j < xs.length * 3
    · have hk : j / 3 < xs.length := by omega
      have k1 := hx _ hk
      have k2 := ddC_at xs _ hk
      have hm : j % 3 = 0 ∨ j % 3 = 1 ∨ j % 3 = 2 := by omega
      rcases hm with q | q | q
      · rw [show j = j / 3 * 3 by omega, k1.1, k2.1]
      · rw [show j = j / 3 * 3 + 1 by omega, k1.2.1, k2.2.1]
      · rw [show j = j / 3 * 3 + 2 by omega, k1.2.2, k2.2.2]
    · rw [List.getElem?_eq_none (by rw [h.1]; omega), List.getElem?_eq_none (by rw [ddC_len]; omega)]
  unfold Own3
  rw [← e]
  exact h
theorem three_set {vs : List Value} {xs : List Dd} {k : Nat} (hl : vs.length = xs.length * 3) (hk : k < xs.length) (hxs : ∀ j, j < k → vs[j * 3]? = some (.int .i64 (xs.getD j nilDd).1) ∧ vs[j * 3 + 1]? = some (.int .i64 (xs.getD j nilDd).2.1) ∧ vs[j * 3 + 2]? = some (.string (bs (xs.getD j nilDd).2.2))) (m n : Int) (t : ByteArray) (hm : m = (xs.getD k nilDd).1) (hn : n = (xs.getD k nilDd).2.1) (ht : t = bs (xs.getD k nilDd).2.2) :
    ∀ j, j < k + 1 → (((vs.set (k * 3) (.int .i64 m)).set (k * 3 + 1) (.int .i64 n)).set (k * 3 + 2) (.string t))[j * 3]? = some (.int .i64 (xs.getD j nilDd).1) ∧ (((vs.set (k * 3) (.int .i64 m)).set (k * 3 + 1) (.int .i64 n)).set (k * 3 + 2) (.string t))[j * 3 + 1]? = some (.int .i64 (xs.getD j nilDd).2.1) ∧ (((vs.set (k * 3) (.int .i64 m)).set (k * 3 + 1) (.int .i64 n)).set (k * 3 + 2) (.string t))[j * 3 + 2]? = some (.string (bs (xs.getD j nilDd).2.2)) := by
  subst hm hn ht
  intro j hj
  by_cases e : j = k
  · subst e
    refine ⟨?_, ?_, ?_⟩
    · rw [List.getElem?_set_ne (by omega), List.getElem?_set_ne (by omega), List.getElem?_set_self (by omega)]
    · rw [List.getElem?_set_ne (by omega), List.getElem?_set_self (by rw [List.length_set]; omega)]
    · rw [List.getElem?_set_self (by rw [List.length_set, List.length_set]; omega)]
  · refine ⟨?_, ?_, ?_⟩
    · rw [List.getElem?_set_ne (by omega), List.getElem?_set_ne (by omega), List.getElem?_set_ne (by omega)]; exact (hxs j (by omega)).1
    · rw [List.getElem?_set_ne (by omega), List.getElem?_set_ne (by omega), List.getElem?_set_ne (by omega)]; exact (hxs j (by omega)).2.1
    · rw [List.getElem?_set_ne (by omega), List.getElem?_set_ne (by omega), List.getElem?_set_ne (by omega)]; exact (hxs j (by omega)).2.2

def EqRelD (xs : List Dd) (w : World) (i : Value) (wr : World) : Prop := ∃ k : Nat, k ≤ xs.length ∧ i = .int .i64 k ∧ w.grownBy wr none

end Go.Proofs.YtlnffpofbfigaaaGreatDoor

/-
  Journals as texts: the model's.
-/
namespace Go.Proofs.YtlnffpofbfigaaaGreatDoor
open Go.RowKit

theorem take_dd {xs : List Dd} {k : Nat} (hk : k < xs.length) : xs.take (k + 1) = xs.take k ++ [xs.getD k nilDd] := by
  rw [List.take_add_one, List.getD_eq_getElem?_getD]
  simp [hk]
theorem jB_snoc {l : List Dd} {a : Dd} (h : jB l = true) (ha : txD a ≠ []) : jB (l ++ [a]) = true := by
  unfold jB at *
  rw [List.all_append, h]
  cases e : txD a with
  | nil => exact absurd e ha
  | cons x y => simp [e]
theorem jL_len : ∀ l : List Dd, (jL l).length ≤ 67 * l.length
  | [] => by simp [jL]
  | a :: l => by
    have := jL_len l
    have := tx_len a
    simp only [jL, List.length_append, List.length_cons]
    omega
theorem jT_no {xs : List Dd} {k : Nat} (hk : k < xs.length) (h : txD (xs.getD k nilDd) = []) : jT xs = [] := by
  unfold jT
  rw [jB_no (getDd_mem hk) h]
  rfl
theorem jT_all {xs : List Dd} (h : jB xs = true) : jT xs = jL xs := if_pos h

def JtRel (xs : List Dd) (w : World) (kv ov : Value) (wr : World) : Prop :=
  ∃ k : Nat, k ≤ xs.length ∧ kv = .int .i64 k ∧ ov = .string (bs (jL (xs.take k))) ∧ jB (xs.take k) = true ∧ w.grownBy wr none
def JtPost (xs : List Dd) (w : World) (e : Ending) (w' : World) : Prop := e = .returned (.string (bs (jT xs))) ∧ w.grownBy w' none

set_option maxRecDepth 8000 in
set_option maxHeartbeats 4000000 in
theorem sjt_any (xs : List Dd) (hn : xs.length ≤ 1048576) (a : Option Addr) (cap : Nat) (w : World) (h : DdsAt w a xs) :
    Calls Tryz.prog 39 #[.slice a xs.length cap] w (JtPost xs w) := by
  have H := Lib.hid h
  clear h
  go_enter Tryz.func39, Tryz.ntmps39
  go_wp2
  go_loopw [4, 3] (fun kv ov wr => JtRel xs w kv ov wr) (fun kv _ _ => xs.length - (intOf kv).toNat)
  case atStart => exact ⟨0, by omega, rfl, rfl, rfl, grownBy_refl _ _⟩
  case round =>
    obtain ⟨k, hk, rfl, rfl, hB, hgr⟩ := hrel
    have Hgr := Lib.hid hgr
    have HB := Lib.hid hB
    have hjl := jL_len (xs.take k)
    rw [List.length_take, Nat.min_eq_left hk] at hjl
    clear hgr hB
    by_cases hlt : k < xs.length
    · have hx := H.out.grown Hgr.out
      rcases hx.2 with h0 | ⟨b, o, rfl, hb, hc⟩
      · rw [h0] at hlt; simp at hlt
      have hx2 : Hid (∀ w2, wr.grownBy w2 none → w2.cell? ⟨b, o + k * 3, none⟩ = some (.int .i64 (xs.getD k nilDd).1) ∧ w2.cell? ⟨b, o + k * 3 + 1, none⟩ = some (.int .i64 (xs.getD k nilDd).2.1) ∧ w2.cell? ⟨b, o + k * 3 + 2, none⟩ = some (.string (bs (xs.getD k nilDd).2.2))) := Lib.hid fun w2 g => by
        rcases (hx.grown g).2 with h0 | ⟨b', o', e, _, hc'⟩
        · rw [h0] at hlt; simp at hlt
        · cases e; exact hc' k hlt
      obtain ⟨c0, c1, c2⟩ := hc k hlt
      clear hx hc hb
      have hno := Lib.hid (jT_no hlt)
      have hyes := Lib.hid (take_dd hlt)
      generalize xs.getD k nilDd = q at *
      obtain ⟨q1, q2, q3⟩ := q
      by_cases ht : txD (q1, q2, q3) = []
      · have cs := stx_v q1 q2 q3 ⟨#[]⟩ (by rw [ht]; rfl)
        go_wp2_with (first | (go_at_call 90; refine (cs _).mono ?_; rintro e w2 ⟨rfl, hg⟩))
        go_ret
        exact ⟨by rw [hno.out ht]; rfl, grownBy_trans Hgr.out hg⟩
      · have cs := stx_v q1 q2 q3 (bs (txD (q1, q2, q3))) rfl
        have hne := empty_bs ht
        have htl := tx_len (q1, q2, q3)
        have HT := Lib.hid ht
        generalize hT : txD (q1, q2, q3) = t at *
        have hz1 := bs_size (jL (xs.take k))
        have hz2 := bs_size t
        have n1 : ¬ (9223372036854775807 < (bs (jL (xs.take k))).size + (bs t).size) := by omega
        have n2 : ¬ (9223372036854775807 < (bs (jL (xs.take k))).size + (bs t).size + 1) := by omega
        clear hz1 hz2 ht
        go_wp2_with fail
        refine (cs _).mono ?_
        rintro e w2 ⟨rfl, hg⟩
        obtain ⟨d0, d1, d2⟩ := hx2.out _ hg
        have Hg2 := Lib.hid (grownBy_trans Hgr.out hg)
        clear hg c0 c1 c2
        go_wp2_with (first | (go_at_call 90; refine (cs _).mono ?_; rintro e w3 ⟨rfl, hg3⟩))
        go_roundw
        case rel => exact ⟨k + 1, by omega, by go_num, by rw [hyes.out, jL_snoc, hT, ← bs_app, ← bs_app]; rfl, by rw [hyes.out]; exact jB_snoc HB.out (by rw [hT]; exact HT.out), grownBy_trans Hg2.out hg3⟩
        case measure => simp [intOf]; omega
    · obtain rfl : k = xs.length := by omega
      go_wp2
      go_ret
      have hB := HB.out
      rw [List.take_length] at hB ⊢
      exact ⟨by rw [jT_all hB]; rfl, Hgr.out⟩

end Go.Proofs.YtlnffpofbfigaaaGreatDoor

/-
  The draws of chapter 12: deeds.
-/
namespace Go.Proofs.YtlnffpofbfigaaaGreatDoor
open Go.RowKit

def DdsRel (w0 : World) (r P : Nat) (kv ov : Value) (wr : World) : Prop :=
  ∃ (j : Nat) (l : List Dd) (a : Option Addr) (cap : Nat), kv = .int .i64 j ∧ ov = .slice a l.length cap ∧ l.length + j ≤ 5 ∧ Own3 wr w0.heap.size a cap l ∧ (∃ g, a = some ⟨g, 0, none⟩) ∧ (∀ x ∈ l, x.2.2.length ≤ 100) ∧ Rd wr r (P + 501 - j * 100) ∧ w0.grownBy wr (some r)
def DdsDraw (r P : Nat) (w : World) (e : Ending) (w' : World) : Prop := ∃ (l : List Dd) (a : Option Addr) (cap : Nat), e = .returned (.slice a l.length cap) ∧ l.length ≤ 5 ∧ Own3 w' w.heap.size a cap l ∧ (∃ g, a = some ⟨g, 0, none⟩) ∧ (∀ x ∈ l, x.2.2.length ≤ 100) ∧ Rd w' r (P + 600) ∧ w.grownBy w' (some r)
theorem own3_more {w : World} {base : Nat} {v : Value} {xs : List Dd} {x : Dd} (h : w.ownsRow base 40 3 v (xs.length + 1) (ddC xs ++ ddC [x])) : ∃ a cap, v = .slice a (xs.length + 1) cap ∧ Own3 w base a cap (xs ++ [x]) := by
  rw [← ddC_app] at h
  obtain ⟨a, cap, e, hl, ho⟩ := own3_shape h
  have hx : (xs ++ [x]).length = xs.length + 1 := by simp
  rw [hx] at e
  exact ⟨a, cap, e, ho⟩
theorem ddC_news {W : World} {b : Nat} {D : Dd} (h : CellsAt W b #[.int .i64 D.1, .int .i64 D.2.1, .string (bs D.2.2)] 40) : ∀ j u, (ddC [D])[j]? = some u → W.cell? ((⟨b, 0, none⟩ : Addr).add j) = some u := by
  intro j u hu
  rw [add_none]
  match j, hu with
  | 0, hu => cases hu; exact h.cell rfl
  | 1, hu => cases hu; exact h.cell rfl
  | 2, hu => cases hu; exact h.cell rfl
theorem grown_own3 {w0 w w' : World} {r base : Nat} {a : Option Addr} {cap : Nat} {xs : List Dd} (g : w0.grownBy w (some r)) (o : Own3 w base a cap xs) (hb : w0.heap.size ≤ base) (hg : w.grownBy w' (Value.slice a xs.length cap).ownBlock) : w0.grownBy w' (some r) :=
  ⟨hg.os.trans g.os, hg.tape.trans g.tape, hg.output.trans g.output, Nat.le_trans g.size hg.size, fun k hk hn => (hg.block k (Nat.lt_of_lt_of_le hk g.size) (fun e => by have := World.ownsRow.lt o k e.symm; omega)).trans (g.block k hk hn)⟩
theorem rd_own3 {w w' : World} {r P base : Nat} {a : Option Addr} {cap : Nat} {xs : List Dd} (hr : Rd w r P) (o : Own3 w base a cap xs) (hb : r < base) (hg : w.grownBy w' (Value.slice a xs.length cap).ownBlock) : Rd w' r P :=
  hr.kept fun k hk => hg.block k (by have := hr.lt; omega) fun e => by have := World.ownsRow.lt o k e.symm; omega

theorem Own3.way {w : World} {base : Nat} {a : Option Addr} {cap : Nat} {zs : List Dd} (h : Own3 w base a cap zs) : (a = none ∧ zs = []) ∨ ∃ g, a = some ⟨g, 0, none⟩ := by
  rcases h.2 with ⟨h0, h1⟩ | ⟨g, c, cur, he, _⟩
  · simp only [Value.slice.injEq] at h0
    exact .inl ⟨h0.1, List.length_eq_zero_iff.1 h1⟩
  · simp only [Value.slice.injEq] at he
    exact .inr ⟨g, he.1⟩

set_option maxRecDepth 8000 in
set_option maxHeartbeats 4000000 in
theorem deeds_draw (w : World) (r P : Nat) (hr : Rd w r P) (hP : P ≤ 40000) :
    Calls Tryz.prog 48 #[.pointer (some ⟨r, 0, none⟩)] w (DdsDraw r P w) := by
  have hlt := hr.lt
  obtain ⟨i0, hi, hz0, hz1, hz2⟩ := info_parts infoDd
  have hr0 := hr.alloc (.cells #[] 40)
  go_enter Tryz.func48, Tryz.ntmps48
  go_wp2_with fail
  refine (pick_any _ _ _ _ hr0 (by omega)).mono ?_
  rintro e w1 ⟨j0, rfl, hj0, hj1, hr1, hg1⟩
  obtain ⟨j0, rfl⟩ := Int.eq_ofNat_of_zero_le hj0
  have hInit : Hid (DdsRel w r P (.int .i64 (j0 : Int)) (.slice (some ⟨w.heap.size, 0, none⟩) 0 0) w1) := ⟨j0, [], _, 0, rfl, rfl, by simp; omega, (Own3.made w).past hg1 hlt, ⟨_, rfl⟩, by simp, hr1.mono (by omega), grownBy_trans (World.grownBy_alloc _ _ _) hg1⟩
  clear hr0 hr1 hg1 hr
  go_wp2_with fail
  go_loopw [4, 3] (fun kv ov wr => DdsRel w r P kv ov wr) (fun kv _ _ => (intOf kv).toNat)
  case atStart => exact hInit.out
  case round =>
    obtain ⟨j, l, a, cap, rfl, rfl, hlj, ho, hsome, hl, hrr, hgw⟩ := hrel
    by_cases hz : j = 0
    · subst hz
      have R := Lib.hid (show Own3 wr w.heap.size a cap l ∧ (∀ x ∈ l, x.2.2.length ≤ 100) ∧ Rd wr r (P + 501 - 0 * 100) ∧ w.grownBy wr (some r) from ⟨ho, hl, hrr, hgw⟩)
      clear ho hl hrr hgw
      go_wp2_with fail
      go_ret
      exact ⟨l, a, cap, rfl, by omega, R.out.1, hsome, R.out.2.1, R.out.2.2.1.mono (by omega), R.out.2.2.2⟩
    · have HO := Lib.hid ho
      have HL := Lib.hid hl
      have HG := Lib.hid hgw
      have hpos : 0 < (j : Int) := by omega
      clear ho hl hgw
      go_wp2_with fail
      refine (deed_draw _ r (P + 501 - j * 100) hrr (by omega)).mono ?_
      rintro e wa ⟨D, rfl, hDl, hra, hga⟩
      have gX := World.grownBy_alloc wa (.cells #[.int .i64 D.1, .int .i64 D.2.1, .string (bs D.2.2)] 40) none
      have HA := Lib.hid ((HO.out.past hga hlt).kept gX)
      have HN := Lib.hid (CellsAt.new wa #[.int .i64 D.1, .int .i64 D.2.1, .string (bs D.2.2)] 40)
      have HR := Lib.hid (hra.grown gX)
      have G1 := Lib.hid (grownBy_trans (grownBy_trans HG.out hga) (grown_none gX))
      have hsz : w.heap.size ≤ (wa.alloc (.cells #[.int .i64 D.1, .int .i64 D.2.1, .string (bs D.2.2)] 40)).heap.size := G1.out.size
      clear hrr hra hga gX
      go_wp2_with (at_builtin; refine wpList_append_own _ rfl _ _ 24 rfl w.heap.size 40 i0 (.agg #[.int .i64 0, .int .i64 0, .string ⟨#[]⟩]) 3 32 Tryz.underlying24 hi hz0 hz1 hz2 rfl (by decide) _ _ _ rfl HA.out ⟨wa.heap.size, 0, none⟩ 1 1 (ddC [D]) rfl rfl (ddC_news HN.out) (ddC_one [D]) (by unfold maxLen; omega) (by omega) hsz ?_; intro v' w4 hown' hgrow _; obtain ⟨a4, cap4, rfl, ho4⟩ := own3_more hown'; have R4 := Lib.hid (rd_own3 HR.out HA.out hlt hgrow); have G4 := Lib.hid (grown_own3 G1.out HA.out (Nat.le_refl _) hgrow); clear hown' hgrow)
      go_roundw
      case rel => exact ⟨j - 1, l ++ [D], a4, cap4, by congr 1; omega, by simp, by simp; omega, ho4, ho4.way.resolve_left fun q => by simp at q, fun x hx => by
          rcases List.mem_append.1 hx with h | h
          · exact HL.out x h
          · rw [List.mem_singleton] at h; rw [h]; exact hDl, R4.out.mono (by omega), G4.out⟩
      case measure => simp [intOf]; omega

end Go.Proofs.YtlnffpofbfigaaaGreatDoor

/-
  The draw of a journal's deeds.
-/
namespace Go.Proofs.YtlnffpofbfigaaaGreatDoor
open Go.RowKit

def WrRel (w0 : World) (gl r P : Nat) (l : List Dd) (kv ov : Value) (wr : World) : Prop :=
  ∃ (k : Nat) (m : List Dd) (g cap : Nat), k ≤ l.length ∧ kv = .int .i64 k ∧ ov = .slice (some ⟨g, 0, none⟩) m.length cap ∧ m.length ≤ k ∧ (Own3 wr w0.heap.size (some ⟨g, 0, none⟩) cap m ∧ g ≠ gl ∧ DdsAt wr (some ⟨gl, 0, none⟩) l ∧ gl < wr.heap.size ∧ (∀ x ∈ m, x.2.2.length ≤ 100) ∧ Rd wr r P ∧ w0.grownBy wr (some r))
/-- The same world, but for what is kept. -/
theorem wr_grown {w0 wr w2 : World} {gl r P g cap : Nat} {l m : List Dd} (h : Own3 wr w0.heap.size (some ⟨g, 0, none⟩) cap m ∧ g ≠ gl ∧ DdsAt wr (some ⟨gl, 0, none⟩) l ∧ gl < wr.heap.size ∧ (∀ x ∈ m, x.2.2.length ≤ 100) ∧ Rd wr r P ∧ w0.grownBy wr (some r)) (hg : wr.grownBy w2 none) :
    Own3 w2 w0.heap.size (some ⟨g, 0, none⟩) cap m ∧ g ≠ gl ∧ DdsAt w2 (some ⟨gl, 0, none⟩) l ∧ gl < w2.heap.size ∧ (∀ x ∈ m, x.2.2.length ≤ 100) ∧ Rd w2 r P ∧ w0.grownBy w2 (some r) :=
  ⟨h.1.kept hg, h.2.1, h.2.2.1.grown hg, Nat.lt_of_lt_of_le h.2.2.2.1 hg.size, h.2.2.2.2.1, h.2.2.2.2.2.1.grown hg, grownBy_trans h.2.2.2.2.2.2 (grown_none hg)⟩
theorem wr_next {w0 wr w2 : World} {gl r P g cap a4' cap4 : Nat} {l m : List Dd} {q : Dd} (h : Own3 wr w0.heap.size (some ⟨g, 0, none⟩) cap m ∧ g ≠ gl ∧ DdsAt wr (some ⟨gl, 0, none⟩) l ∧ gl < wr.heap.size ∧ (∀ x ∈ m, x.2.2.length ≤ 100) ∧ Rd wr r P ∧ w0.grownBy wr (some r)) (hq : q.2.2.length ≤ 100) (hr : r < w0.heap.size)
    (ho : Own3 w2 w0.heap.size (some ⟨a4', 0, none⟩) cap4 (m ++ [q])) (hg : wr.grownBy w2 (Value.slice (some ⟨g, 0, none⟩) m.length cap).ownBlock) (hat : (Value.slice (some ⟨a4', 0, none⟩) (m.length + 1) cap4).ownBlock = (Value.slice (some ⟨g, 0, none⟩) m.length cap).ownBlock ∨ (Value.slice (some ⟨a4', 0, none⟩) (m.length + 1) cap4).ownBlock = some wr.heap.size) :
    Own3 w2 w0.heap.size (some ⟨a4', 0, none⟩) cap4 (m ++ [q]) ∧ a4' ≠ gl ∧ DdsAt w2 (some ⟨gl, 0, none⟩) l ∧ gl < w2.heap.size ∧ (∀ x ∈ m ++ [q], x.2.2.length ≤ 100) ∧ Rd w2 r P ∧ w0.grownBy w2 (some r) := by
  obtain ⟨h1, h2, h3, h4, h5, h6, h7⟩ := h
  refine ⟨ho, ?_, h3.kept hg fun x hx e => ?_, Nat.lt_of_lt_of_le h4 hg.size, fun x hx => ?_, rd_own3 h6 h1 hr hg, grown_own3 h7 h1 (Nat.le_refl _) hg⟩
  · rcases hat with e | e
    · simp only [Value.ownBlock, Option.some.injEq] at e
      rw [e]; exact h2
    · simp only [Value.ownBlock, Option.some.injEq] at e
      rw [e]; exact fun k => absurd h4 (by omega)
  · cases hx
    simp only [Value.ownBlock, Option.some.injEq] at e
    exact h2 e.symm
  · rcases List.mem_append.1 hx with k | k
    · exact h5 x k
    · rw [List.mem_singleton] at k; rw [k]; exact hq

set_option maxRecDepth 8000 in
set_option maxHeartbeats 4000000 in
theorem written_draw (w : World) (r P : Nat) (hr : Rd w r P) (hP : P ≤ 40000) :
    Calls Tryz.prog 40 #[.pointer (some ⟨r, 0, none⟩)] w (DdsDraw r P w) := by
  have hlt := hr.lt
  obtain ⟨i0, hi, hz0, hz1, hz2⟩ := info_parts infoDd
  go_enter Tryz.func40, Tryz.ntmps40
  go_wp2_with fail
  have hr0 := hr.alloc (.cells #[] 40)
  refine (deeds_draw (w.alloc (.cells #[] 40)) r P hr0 hP).mono ?_
  rintro e w1 ⟨l, al, capl, rfl, hl5, hol, ⟨gl, rfl⟩, hl100, hr1, hg1⟩
  have hI : Hid (Own3 w1 w.heap.size (some ⟨w.heap.size, 0, none⟩) 0 [] ∧ w.heap.size ≠ gl ∧ DdsAt w1 (some ⟨gl, 0, none⟩) l ∧ gl < w1.heap.size ∧ (∀ x ∈ ([] : List Dd), x.2.2.length ≤ 100) ∧ Rd w1 r (P + 600) ∧ w.grownBy w1 (some r)) := by
    have hb := World.ownsRow.lt hol gl rfl
    exact ⟨(Own3.made w).past hg1 hlt, by simp at hb; omega, hol.at, hb.2, by simp, hr1, grownBy_trans (World.grownBy_alloc _ _ _) hg1⟩
  have HL := Lib.hid hl100
  clear hr0 hr1 hg1 hol hr hl100
  go_wp2_with fail
  go_loopw [5, 3] (fun kv ov wr => WrRel w gl r (P + 600) l kv ov wr) (fun kv _ _ => l.length - (intOf kv).toNat)
  case atStart => exact ⟨0, [], _, 0, by omega, rfl, rfl, by simp, hI.out⟩
  case round =>
    obtain ⟨k, m, g, cap, hk, rfl, rfl, hmk, hR⟩ := hrel
    have HR := Lib.hid hR
    clear hR
    by_cases hlt2 : k < l.length
    · have hx2 : Hid (∀ w2, wr.grownBy w2 none → w2.cell? ⟨gl, 0 + k * 3, none⟩ = some (.int .i64 (l.getD k nilDd).1) ∧ w2.cell? ⟨gl, 0 + k * 3 + 1, none⟩ = some (.int .i64 (l.getD k nilDd).2.1) ∧ w2.cell? ⟨gl, 0 + k * 3 + 2, none⟩ = some (.string (bs (l.getD k nilDd).2.2))) := Lib.hid fun w2 gg => by
        rcases ((HR.out.2.2.1).grown gg).2 with h0 | ⟨b', o', e, _, hc'⟩
        · rw [h0] at hlt2; simp at hlt2
        · cases e; exact hc' k hlt2
      have hq100 : Hid ((l.getD k nilDd).2.2.length ≤ 100) := Lib.hid (HL.out _ (getDd_mem hlt2))
      obtain ⟨c0, c1, c2⟩ := hx2.out wr (grownBy_refl _ _)
      rw [Nat.zero_add] at c0 c1 c2
      generalize l.getD k nilDd = q at *
      obtain ⟨q1, q2, q3⟩ := q
      by_cases ht : txD (q1, q2, q3) = []
      · have cs := stx_v q1 q2 q3 ⟨#[]⟩ (by rw [ht]; rfl)
        go_wp2_with fail
        refine (cs _).mono ?_
        rintro e w2 ⟨rfl, hg⟩
        have HR2 := Lib.hid (wr_grown HR.out hg)
        clear hg
        go_wp2_with fail
        go_roundw
        case rel => exact ⟨k + 1, m, g, cap, by omega, by go_num, rfl, by omega, HR2.out⟩
        case measure => simp [intOf]; omega
      · have cs := stx_v q1 q2 q3 (bs (txD (q1, q2, q3))) rfl
        have hne := empty_bs ht
        generalize txD (q1, q2, q3) = t at *
        clear ht
        go_wp2_with fail
        refine (cs _).mono ?_
        rintro e w2 ⟨rfl, hg⟩
        obtain ⟨d0, d1, d2⟩ := hx2.out _ hg
        rw [Nat.zero_add] at d0 d1 d2
        have gX := World.grownBy_alloc w2 (.cells #[.int .i64 q1, .int .i64 q2, .string (bs q3)] 40) none
        have HR2 := Lib.hid (wr_grown (wr_grown HR.out hg) gX)
        have HN := Lib.hid (CellsAt.new w2 #[.int .i64 q1, .int .i64 q2, .string (bs q3)] 40)
        have hsz : w.heap.size ≤ (w2.alloc (.cells #[.int .i64 q1, .int .i64 q2, .string (bs q3)] 40)).heap.size := HR2.out.2.2.2.2.2.2.size
        clear hg c0 c1 c2 gX
        go_wp2_with (at_builtin; refine wpList_append_own_at _ rfl _ _ 24 rfl w.heap.size 40 i0 (.agg #[.int .i64 0, .int .i64 0, .string ⟨#[]⟩]) 3 32 Tryz.underlying24 hi hz0 hz1 hz2 rfl (by decide) _ _ _ rfl HR2.out.1 ⟨w2.heap.size, 0, none⟩ 1 1 (ddC [(q1, q2, q3)]) rfl rfl (ddC_news HN.out) (ddC_one [(q1, q2, q3)]) (by unfold maxLen; omega) (by omega) hsz ?_; intro v' w4 hown' hgrow _ hat; obtain ⟨a4, cap4, rfl, ho4⟩ := own3_more hown'; obtain ⟨g4, rfl⟩ := ho4.way.resolve_left (fun z => by simp at z); have HR4 := Lib.hid (wr_next HR2.out hq100.out hlt ho4 hgrow hat); clear hown' hgrow hat ho4)
        go_roundw
        case rel => exact ⟨k + 1, m ++ [(q1, q2, q3)], g4, cap4, by omega, by go_num, by simp, by simp; omega, HR4.out⟩
        case measure => simp [intOf]; omega
    · go_wp2_with fail
      go_ret
      obtain ⟨h1, h2, h3, h4, h5, h6, h7⟩ := HR.out
      exact ⟨m, _, cap, rfl, by omega, h1, ⟨_, rfl⟩, h5, h6, h7⟩

end Go.Proofs.YtlnffpofbfigaaaGreatDoor

/-
  The draw of FnJournalText's deeds; the laws' sameDeeds at two rows of the same deeds.
-/
namespace Go.Proofs.YtlnffpofbfigaaaGreatDoor
open Go.RowKit

def DjtPost (w : World) (e : Ending) (w' : World) : Prop := ∃ (m : List Dd) (a : Option Addr) (cap : Nat), e = .returned (.slice a m.length cap) ∧ m.length ≤ 6 ∧ Own3 w' w.heap.size a cap m ∧ w.grownBy w' none

def SddRel (xs : List Dd) (w : World) (i : Value) (wr : World) : Prop := ∃ k : Nat, k ≤ xs.length ∧ i = .int .i64 k ∧ w.grownBy wr none
set_option maxRecDepth 8000 in
set_option maxHeartbeats 2000000 in
theorem sameDeeds_yes (a b : Option Addr) (ca cb : Nat) (xs : List Dd) (w : World) (hx : DdsAt w a xs) (hy : DdsAt w b xs) :
    Calls Tryz.prog 11 #[.slice a xs.length ca, .slice b xs.length cb] w fun e w' => e = .returned (.bool true) ∧ w.grownBy w' none := by
  have hm := hx.1
  unfold maxLen at hm
  have HX := Lib.hid hx
  have HY := Lib.hid hy
  clear hx hy
  go_enter Tryz.func11, Tryz.ntmps11
  go_wp2
  go_loopw [5] (fun i wr => SddRel xs w i wr) (fun i _ => xs.length - (intOf i).toNat)
  case atStart => exact ⟨0, by omega, rfl, grownBy_refl _ _⟩
  case round =>
    obtain ⟨k, hk, rfl, hgr⟩ := hrel
    have Hgr := Lib.hid hgr
    clear hgr
    by_cases hlt : k < xs.length
    · rcases (HX.out.grown Hgr.out).2 with h0 | ⟨bx, ox, rfl, _, hcx⟩
      · rw [h0] at hlt; simp at hlt
      rcases (HY.out.grown Hgr.out).2 with h0 | ⟨by', oy, rfl, _, hcy⟩
      · rw [h0] at hlt; simp at hlt
      obtain ⟨x0, x1, x2⟩ := hcx k hlt
      obtain ⟨y0, y1, y2⟩ := hcy k hlt
      clear hcx hcy
      generalize xs.getD k nilDd = q at *
      obtain ⟨q1, q2, q3⟩ := q
      go_wp2_with fail
      go_region_with fail
      all_goals go_wp2_with fail
      all_goals go_roundw
      all_goals first | (simp [intOf]; omega) | exact ⟨k + 1, by omega, by go_num, grownBy_drew Hgr.out⟩ | exact ⟨k + 1, by omega, by go_num, grownBy_drewN Hgr.out _⟩ | exact ⟨k + 1, by omega, by go_num, Hgr.out⟩
    · obtain rfl : k = xs.length := by omega
      go_wp2
      go_ret
      exact ⟨rfl, Hgr.out⟩

end Go.Proofs.YtlnffpofbfigaaaGreatDoor

/-
  A number's text read, as the model reads it.
-/
namespace Go.Proofs.YtlnffpofbfigaaaGreatDoor
open Go.RowKit

/-- The number whose digits these are. -/
def valN : List UInt8 → Int → Int
  | [], n => n
  | c :: r, n => valN r (10 * n + digV c)
theorem valN_app : ∀ (l : List UInt8) (c : UInt8) (n : Int), valN (l ++ [c]) n = 10 * valN l n + digV c
  | [], _, _ => rfl
  | x :: l, c, n => by show valN (l ++ [c]) _ = _; rw [valN_app l c]; rfl
theorem take_snocB {l r : List UInt8} {c : UInt8} {k : Nat} (hd : l.drop k = c :: r) : l.take (k + 1) = l.take k ++ [c] := by
  rw [List.take_add_one]
  have : l[k]? = some c := by have := congrArg (fun x => x[0]?) hd; simpa using this
  rw [this]; rfl
theorem dig_done {l : List UInt8} (h1 : 1 ≤ l.length) (h2 : l.length ≤ 2) (hz : ¬ (1 < l.length ∧ l.getD 0 0 = 48)) (ha : ∀ c ∈ l, isD c = true) : digI l = valN l 0 := by
  match l, h1, h2, hz, ha with
  | [c], _, _, _, ha => rw [digI_one (ha c (by simp))]; show _ = 10 * 0 + digV c; omega
  | [c, d], _, _, hz, ha =>
    rw [digI_two (ha c (by simp)) (ha d (by simp)) (fun e => hz ⟨by simp, by simpa using e⟩)]
    show _ = 10 * (10 * 0 + digV c) + digV d
    omega
theorem dig_bad {l : List UInt8} {c : UInt8} (h2 : l.length ≤ 2) (hm : c ∈ l) (hc : isD c = false) : digI l = -1 := by
  match l, h2, hm with
  | [], _, hm => cases hm
  | [a], _, hm => rw [List.mem_singleton] at hm; subst hm; exact digI_one_no hc
  | [a, b], _, hm =>
    rcases List.mem_cons.1 hm with h | h
    · subst h; exact digI_two_no (.inl hc)
    · rw [List.mem_singleton] at h; subst h; exact digI_two_no (.inr (.inl hc))
theorem dig_zero {l : List UInt8} {r : List UInt8} (hd : l = 48 :: r) (hr : 1 < l.length) : digI l = -1 := by
  subst hd
  match r, hr with
  | [], hr => simp at hr
  | [d], _ => exact digI_two_no (.inr (.inr rfl))
  | d :: e :: r, _ => exact digI_long (by simp)

/-! The walks. -/
theorem digV_le (c : UInt8) (h : isD c = true) : 0 ≤ digV c ∧ digV c ≤ 9 := inB_of h
theorem isD_ways (c : UInt8) : (isD c = true ∧ ¬ (c.toNat : Int) < 48 ∧ ¬ 57 < (c.toNat : Int)) ∨ (isD c = false ∧ ((c.toNat : Int) < 48 ∨ (¬ (c.toNat : Int) < 48 ∧ 57 < (c.toNat : Int)))) := by
  by_cases g : (c.toNat : Int) < 48
  · exact .inr ⟨inB_f (by unfold digV; omega), .inl g⟩
  · by_cases g2 : 57 < (c.toNat : Int)
    · exact .inr ⟨inB_f (by unfold digV; omega), .inr ⟨g, g2⟩⟩
    · exact .inl ⟨inB_t (by unfold digV; omega), g, g2⟩
def DgRel1 (c : UInt8) (w : World) (nv kv : Value) (wr : World) : Prop := w = wr ∧ ((nv = .int .i64 0 ∧ kv = .int .i64 0) ∨ (isD c = true ∧ nv = .int .i64 ((c.toNat : Int) - 48) ∧ kv = .int .i64 1))
def DgRel2 (c d : UInt8) (w : World) (nv kv : Value) (wr : World) : Prop := w = wr ∧ ((nv = .int .i64 0 ∧ kv = .int .i64 0) ∨ (isD c = true ∧ nv = .int .i64 ((c.toNat : Int) - 48) ∧ kv = .int .i64 1) ∨ (isD c = true ∧ isD d = true ∧ nv = .int .i64 (10 * ((c.toNat : Int) - 48) + ((d.toNat : Int) - 48)) ∧ kv = .int .i64 2))
set_option maxRecDepth 8000 in
set_option maxHeartbeats 4000000 in
theorem sdig_1 (c : UInt8) (w : World) :
    Calls Tryz.prog 76 #[.string (bs [c])] w fun e w' => e = .returned (.int .i64 (digI [c])) ∧ w = w' := by
  have hz : (bs [c]).size = 1 := bs_size [c]
  have cn := in_any 1 1 2
  rw [show inB 1 1 2 = true from rfl] at cn
  have hidx0 : ∀ w : World, (Instr.index 9 (.string (bs [c])) (.int .i64 0)).run Tryz.prog w = .ok (.int .u8 (c.toNat : Int)) w := fun w => idx_run (s := bs [c]) (p := 0) (c := c) rfl w
  have hlt := c.toNat_lt
  obtain ⟨S, hS⟩ : ∃ S, bs [c] = S := ⟨_, rfl⟩
  rw [hS] at hz hidx0 ⊢
  clear hS
  go_enter Tryz.func76, Tryz.ntmps76
  go_wp2_with (first | (go_at_call 96; refine (cn _).mono ?_; rintro e w' ⟨rfl, rfl⟩))
  clear cn
  go_loopw [3, 4] (fun nv kv wr => DgRel1 c w nv kv wr) (fun _ kv _ => 1 - (intOf kv).toNat)
  case atStart => exact ⟨rfl, .inl ⟨rfl, rfl⟩⟩
  case round =>
    obtain ⟨rfl, hrel⟩ := hrel
    rcases hrel with ⟨rfl, rfl⟩ | ⟨hc, rfl, rfl⟩
    · rcases isD_ways c with ⟨hx, g1, g2⟩ | ⟨hx, g1 | ⟨g1, g2⟩⟩
      · have wx : IntKind.u8.wrap ((c.toNat : Int) - 48) = (c.toNat : Int) - 48 := by rw [IntKind.wrap_u8]; omega
        have wy : wrap64 ((c.toNat : Int) - 48) = (c.toNat : Int) - 48 := by unfold wrap64; omega
        go_wp2
        go_roundw
        case rel => exact ⟨rfl, .inr ⟨hx, by go_num, rfl⟩⟩
        case measure => simp [intOf]
      · go_wp2
        go_ret
        exact ⟨by rw [digI_one_no hx]; rfl, rfl⟩
      · go_wp2
        go_ret
        exact ⟨by rw [digI_one_no hx]; rfl, rfl⟩
    · go_wp2
      go_ret
      exact ⟨by rw [digI_one hc]; rfl, rfl⟩

set_option maxRecDepth 8000 in
set_option maxHeartbeats 4000000 in
theorem sdig_2 (c d : UInt8) (h48 : c ≠ 48) (w : World) :
    Calls Tryz.prog 76 #[.string (bs [c, d])] w fun e w' => e = .returned (.int .i64 (digI [c, d])) ∧ w = w' := by
  have hz : (bs [c, d]).size = 2 := bs_size [c, d]
  have cn := in_any 2 1 2
  rw [show inB 2 1 2 = true from rfl] at cn
  have hidx0 : ∀ w : World, (Instr.index 9 (.string (bs [c, d])) (.int .i64 0)).run Tryz.prog w = .ok (.int .u8 (c.toNat : Int)) w := fun w => idx_run (s := bs [c, d]) (p := 0) (c := c) rfl w
  have hidx1 : ∀ w : World, (Instr.index 9 (.string (bs [c, d])) (.int .i64 1)).run Tryz.prog w = .ok (.int .u8 (d.toNat : Int)) w := fun w => idx_run (s := bs [c, d]) (p := 1) (c := d) (r := []) rfl w
  have hne : ((c.toNat : Int) == 48) = false := beq_false_of_ne fun e => h48 (UInt8.toNat_inj.1 (by rw [show (48 : UInt8).toNat = 48 from rfl]; omega))
  have hlt := c.toNat_lt
  have hlt2 := d.toNat_lt
  obtain ⟨S, hS⟩ : ∃ S, bs [c, d] = S := ⟨_, rfl⟩
  rw [hS] at hz hidx0 hidx1 ⊢
  clear hS
  go_enter Tryz.func76, Tryz.ntmps76
  go_wp2_with (first | (go_at_call 96; refine (cn _).mono ?_; rintro e w' ⟨rfl, rfl⟩))
  clear cn
  go_loopw [3, 4] (fun nv kv wr => DgRel2 c d w nv kv wr) (fun _ kv _ => 2 - (intOf kv).toNat)
  case atStart => exact ⟨rfl, .inl ⟨rfl, rfl⟩⟩
  case round =>
    obtain ⟨rfl, hrel⟩ := hrel
    rcases hrel with ⟨rfl, rfl⟩ | ⟨hc, rfl, rfl⟩ | ⟨hc, hd, rfl, rfl⟩
    · rcases isD_ways c with ⟨hx, g1, g2⟩ | ⟨hx, g1 | ⟨g1, g2⟩⟩
      · have wx : IntKind.u8.wrap ((c.toNat : Int) - 48) = (c.toNat : Int) - 48 := by rw [IntKind.wrap_u8]; omega
        have wy : wrap64 ((c.toNat : Int) - 48) = (c.toNat : Int) - 48 := by unfold wrap64; omega
        go_wp2
        go_roundw
        case rel => exact ⟨rfl, .inr (.inl ⟨hx, by go_num, rfl⟩)⟩
        case measure => simp [intOf]
      · go_wp2
        go_ret
        exact ⟨by rw [digI_two_no (.inl hx)]; rfl, rfl⟩
      · go_wp2
        go_ret
        exact ⟨by rw [digI_two_no (.inl hx)]; rfl, rfl⟩
    · rcases isD_ways d with ⟨hx, g1, g2⟩ | ⟨hx, g1 | ⟨g1, g2⟩⟩
      · have wx : IntKind.u8.wrap ((d.toNat : Int) - 48) = (d.toNat : Int) - 48 := by rw [IntKind.wrap_u8]; omega
        have hcv := digV_le c hc
        unfold digV at hcv
        have wy : wrap64 (10 * ((c.toNat : Int) - 48)) = 10 * ((c.toNat : Int) - 48) := by unfold wrap64; omega
        have wz : wrap64 (10 * ((c.toNat : Int) - 48) + ((d.toNat : Int) - 48)) = 10 * ((c.toNat : Int) - 48) + ((d.toNat : Int) - 48) := by unfold wrap64; omega
        go_wp2
        go_roundw
        case rel => exact ⟨rfl, .inr (.inr ⟨hc, hx, by go_num, rfl⟩)⟩
        case measure => simp [intOf]
      · go_wp2
        go_ret
        exact ⟨by rw [digI_two_no (.inr (.inl hx))]; rfl, rfl⟩
      · go_wp2
        go_ret
        exact ⟨by rw [digI_two_no (.inr (.inl hx))]; rfl, rfl⟩
    · go_wp2
      go_ret
      exact ⟨by rw [digI_two hc hd h48]; rfl, rfl⟩

set_option maxHeartbeats 1000000 in
theorem sdig_zero (d : UInt8) (w : World) :
    Calls Tryz.prog 76 #[.string (bs [48, d])] w fun e w' => e = .returned (.int .i64 (digI [48, d])) ∧ w = w' := by
  have hz : (bs [48, d]).size = 2 := bs_size [48, d]
  have cn := in_any 2 1 2
  rw [show inB 2 1 2 = true from rfl] at cn
  have hidx0 : ∀ w : World, (Instr.index 9 (.string (bs [48, d])) (.int .i64 0)).run Tryz.prog w = .ok (.int .u8 48) w := fun w => idx_run (s := bs [48, d]) (p := 0) (c := 48) rfl w
  rw [digI_two_no (.inr (.inr rfl))]
  obtain ⟨S, hS⟩ : ∃ S, bs [48, d] = S := ⟨_, rfl⟩
  rw [hS] at hz hidx0 ⊢
  clear hS
  go_enter Tryz.func76, Tryz.ntmps76
  go_wp2_with (first | (go_at_call 96; refine (cn _).mono ?_; rintro e w' ⟨rfl, rfl⟩))
  go_ret
  exact ⟨rfl, rfl⟩
set_option maxHeartbeats 1000000 in
theorem sdig_len (l : List UInt8) (h : l = [] ∨ 2 < l.length) (hl : l.length ≤ 2097152) (w : World) :
    Calls Tryz.prog 76 #[.string (bs l)] w fun e w' => e = .returned (.int .i64 (digI l)) ∧ w = w' := by
  have hz := bs_size l
  have cn := in_any (l.length : Int) 1 2
  rw [show inB (l.length : Int) 1 2 = false from inB_f (by rcases h with rfl | h <;> simp <;> omega)] at cn
  rw [show digI l = -1 from by rcases h with rfl | h; exact digI_nil; exact digI_long h]
  clear h
  generalize bs l = S at *
  go_enter Tryz.func76, Tryz.ntmps76
  go_wp2_with (first | (go_at_call 96; refine (cn _).mono ?_; rintro e w' ⟨rfl, rfl⟩))
  go_ret
  exact ⟨rfl, rfl⟩
theorem sdig_any (l : List UInt8) (hl : l.length ≤ 2097152) (w : World) :
    Calls Tryz.prog 76 #[.string (bs l)] w fun e w' => e = .returned (.int .i64 (digI l)) ∧ w = w' := by
  match l, hl with
  | [], hl => exact sdig_len [] (.inl rfl) hl w
  | [c], _ => exact sdig_1 c w
  | [c, d], _ =>
    by_cases h : c = 48
    · subst h; exact sdig_zero d w
    · exact sdig_2 c d h w
  | c :: d :: e :: r, hl => exact sdig_len _ (.inr (by simp)) hl w

end Go.Proofs.YtlnffpofbfigaaaGreatDoor

/-
  A deed's text read, as the model reads it.
-/
namespace Go.Proofs.YtlnffpofbfigaaaGreatDoor
open Go.RowKit

theorem sct_any (l : List UInt8) (hl : l.length ≤ 2097152) (w : World) : Calls Tryz.prog 73 #[.string (bs l), .int .u8 32] w (ScPost 32 l w) := scut_any 32 l hl w
/-- What lies where while the model looks through its deeds. -/
def SrRel (l : List UInt8) (xs : List Dd) (w : World) (g0 : Nat) (kv : Value) (wr : World) : Prop := ∃ k : Nat, k ≤ xs.length ∧ kv = .int .i64 k ∧ (∀ j, j < k → txD (xs.getD j nilDd) ≠ l) ∧ CellsAt wr w.heap.size #[.int .i64 0, .int .i64 0, .string ⟨#[]⟩] 40 ∧ DdsAt wr (some ⟨g0, 0, none⟩) xs ∧ w.grownBy wr none
theorem all_none {l : List UInt8} {xs : List Dd} (h : ∀ j, j < xs.length → txD (xs.getD j nilDd) ≠ l) : ∀ a ∈ xs, txD a ≠ l := by
  intro a ha
  obtain ⟨j, hj, rfl⟩ := List.mem_iff_getElem.1 ha
  have := h j hj
  rwa [List.getD_eq_getElem?_getD, List.getElem?_eq_getElem hj] at this
theorem row_cells {w : World} {g k : Nat} {xs : List Dd} {K N : Int} {T : List UInt8} (h : DdsAt w (some ⟨g, 0, none⟩) xs) (hk : k < xs.length) (hq : xs.getD k nilDd = (K, N, T)) : w.cell? ⟨g, k * 3, none⟩ = some (.int .i64 K) ∧ w.cell? ⟨g, k * 3 + 1, none⟩ = some (.int .i64 N) ∧ w.cell? ⟨g, k * 3 + 2, none⟩ = some (.string (bs T)) := by
  rcases h.2 with h0 | ⟨b, off, ha, _, hc⟩
  · rw [h0] at hk; simp at hk
  · cases ha
    have := hc k hk
    rw [hq, Nat.zero_add] at this
    exact this
theorem cand_few {l : List UInt8} (h : (cutL 32 l).length ≠ 2) : candL l = cand3 := by
  unfold candL candT
  split
  · rename_i a b e; rw [e] at h; exact absurd rfl h
  · simp
theorem start_few {l : List UInt8} {w w1 : World} (hg : (w.alloc (.cells #[.int .i64 0, .int .i64 0, .string ⟨#[]⟩] 40)).grownBy w1 none) : SrRel l cand3 w w1.heap.size (.int .i64 0) (w1.alloc (.cells #[.int .i64 2, .int .i64 0, .string ⟨#[]⟩, .int .i64 5, .int .i64 0, .string ⟨#[]⟩, .int .i64 6, .int .i64 0, .string ⟨#[]⟩] 40)) :=
  have ga := World.grownBy_alloc w1 (.cells #[.int .i64 2, .int .i64 0, .string ⟨#[]⟩, .int .i64 5, .int .i64 0, .string ⟨#[]⟩, .int .i64 6, .int .i64 0, .string ⟨#[]⟩] 40) none
  ⟨0, by omega, rfl, fun j hj => absurd hj (by omega), ((CellsAt.new w _ _).grown hg).grown ga, Own3.at (base := w1.heap.size) (cap := 3) (World.ownsRow_lit (e := 40) (size := 3) w1 _ 3 (Nat.le_refl _) (by unfold maxLen; omega) rfl), grownBy_trans (grownBy_trans (World.grownBy_alloc _ _ none) hg) ga⟩

set_option maxRecDepth 8000 in
set_option maxHeartbeats 4000000 in
theorem srd_few (l : List UInt8) (hl : l.length ≤ 2097152) (h0 : l ≠ []) (hc : (cutL 32 l).length ≠ 2) (w : World) :
    Calls Tryz.prog 45 #[.string (bs l)] w (RdDPost l w) := by
  have cs := sct_any l hl
  have he := empty_bs h0
  unfold ScPost at cs
  have hc2 : (((cutL 32 l).length : Int) == 2) = false := beq_false_of_ne (by omega)
  have hcd := cand_few hc
  unfold RdDPost
  go_enter Tryz.func45, Tryz.ntmps45
  go_wp2_with (first | (go_at_call 73; refine (cs _).mono ?_; rintro e w1 ⟨a, cap, rfl, hS, hg⟩; have S0 := Lib.hid (start_few (l := l) hg)))
  obtain ⟨g0, hg0⟩ : ∃ g0, w1.heap.size = g0 := ⟨_, rfl⟩
  rw [hg0] at S0 ⊢
  generalize w1.alloc _ = W at *
  clear cs hc2 hg hS hg0 hc
  have SS := S0
  go_loopw [6] (fun kv wr => SrRel l cand3 w g0 kv wr) (fun kv _ => (cand3).length - (intOf kv).toNat)
  case atStart => exact SS.out
  case round =>
    obtain ⟨k, hk, rfl, hall, hB, hX, hgr⟩ := hrel
    have HB := Lib.hid hB
    have HX := Lib.hid hX
    have HG := Lib.hid hgr
    have HA := Lib.hid hall
    have hk3 : k ≤ 3 := hk
    by_cases hlt3 : k < 3
    · have hlt : k < (cand3).length := hlt3
      clear hX hB hgr hall
      generalize hq : (cand3).getD k nilDd = q at *
      obtain ⟨K, N, T⟩ := q
      obtain ⟨x0, x1, x2⟩ := row_cells HX.out hlt hq
      by_cases hx : txD (K, N, T) = l
      · have c2 := stx_v K N T _ (by rw [hx])
        have hr := rdV_some (cand_yes h0 hx)
        unfold ddV at hr
        go_wp2_with (first | (go_at_call 90; refine (c2 _).mono ?_; rintro e w3 ⟨rfl, g3⟩; have H3 := Lib.hid (HB.out.grown g3); obtain ⟨⟨y0, y1, y2⟩, z0, z1, z2⟩ := set_facts H3.out; obtain ⟨u0, u1, u2⟩ := row_cells (HX.out.grown g3) hlt hq))
        exact bodyPost_ret (v := .tuple #[.agg #[.int .i64 K, .int .i64 N, .string (bs T)], .bool true]) (resDdB rfl _ rfl rfl (H3.out.put3 _ _ _)) rfl ⟨by first | rfl | exact (congrArg Ending.returned hr).symm, put3_grown _ (grownBy_trans HG.out g3) (Nat.le_refl _) _ _ _⟩
      · have c2 := stx_v K N T _ rfl
        have hne := bs_ne hx
        rw [← toL_bs (txD (K, N, T))] at hne
        generalize bs (txD (K, N, T)) = X at *
        go_wp2_with (first | (go_at_call 90; refine (c2 _).mono ?_; rintro e w3 ⟨rfl, g3⟩))
        go_roundw
        case rel => exact ⟨k + 1, by omega, by go_num, fun j hj => by
          by_cases e : j = k
          · rw [e, hq]; exact hx
          · exact HA.out j (by omega), HB.out.grown g3, HX.out.grown g3, grownBy_trans HG.out g3⟩
        case measure => simp [intOf]; omega
    · obtain rfl : k = 3 := by omega
      have hr := rdV_none (cand_no (s := l) (.inr (by rw [hcd]; exact all_none HA.out)))
      unfold ddV nilDd at hr
      obtain ⟨⟨y0, y1, y2⟩, z0, z1, z2⟩ := set_facts HB.out
      clear hX hB hgr hall
      go_wp2
      exact bodyPost_ret (v := .tuple #[.agg #[.int .i64 0, .int .i64 0, .string ⟨#[]⟩], .bool false]) (resDdB rfl _ rfl rfl (HB.out.put3 _ _ _)) rfl ⟨by first | rfl | exact (congrArg Ending.returned hr).symm, put3_grown _ HG.out (Nat.le_refl _) _ _ _⟩

theorem cand_many {l A T : List UInt8} (h : cutL 32 l = [A, T]) : candL l = cand3 ++ [(0, digI T, []), (1, 0, T), (3, 0, T), (4, 0, T)] := by
  unfold candL; rw [h]; rfl
theorem news_dd {W : World} {b : Nat} {L : List Dd} (h : CellsAt W b (ddC L).toArray 40) : ∀ j u, (ddC L)[j]? = some u → W.drew.cell? ((⟨b, 0, none⟩ : Addr).add j) = some u := by
  intro j u hu
  rw [add_none, Nat.zero_add]
  exact h.cell (by rw [List.getElem?_toArray]; exact hu)
theorem grD_row {a b c : World} {g : Nat} (h : a.grownBy b none) (hb : a.heap.size ≤ g) (k : b.grownBy c (some g)) : a.grownBy c none :=
  ⟨k.os.trans h.os, k.tape.trans h.tape, k.output.trans h.output, Nat.le_trans h.size k.size, fun i hi hne => (k.block i (Nat.lt_of_lt_of_le hi h.size) (by simp; omega)).trans (h.block i hi hne)⟩
theorem start_many {l : List UInt8} {xs ys : List Dd} {w W W2 w3 : World} {g0 g9 : Nat} {kv : Value} (h : SrRel l xs w g0 kv W) (hd : DdsAt w3 (some ⟨g9, 0, none⟩) ys) (hgt : w.heap.size < g0) (hg : W.grownBy W2 none) (k : W2.grownBy w3 (some g0)) : SrRel l ys w g9 (.int .i64 0) w3 := by
  obtain ⟨_, _, _, _, hB, _, hgr⟩ := h
  exact ⟨0, by omega, rfl, fun j hj => absurd hj (by omega), (hB.grown hg).kept k (by simp; omega), hd, grD_row (grownBy_trans hgr hg) (by omega) k⟩
theorem cut_parts {l A T : List UInt8} {p : UInt8} (h : cutL p l = [A, T]) : T.length ≤ l.length := by
  have := cutL_join p l
  rw [h] at this
  have hl := congrArg List.length this
  simp [joinL] at hl
  omega
set_option maxRecDepth 8000 in
set_option maxHeartbeats 4000000 in
theorem srd_many (l A T : List UInt8) (hl : l.length ≤ 2097152) (h0 : l ≠ []) (hc : cutL 32 l = [A, T]) (w : World) :
    Calls Tryz.prog 45 #[.string (bs l)] w (RdDPost l w) := by
  have cs := sct_any l hl
  have he := empty_bs h0
  unfold ScPost at cs
  rw [hc] at cs
  have hcd := cand_many hc
  have cg := sdig_any T (Nat.le_trans (cut_parts hc) hl)
  obtain ⟨i0, hi, hz0, hz1, hz2⟩ := info_parts infoDd
  clear hc
  unfold RdDPost
  go_enter Tryz.func45, Tryz.ntmps45
  go_wp2_with fail
  refine (cs _).mono ?_
  rintro e w1 ⟨a, cap, rfl, hS, hg⟩
  have S0 := Lib.hid (start_few (l := l) hg)
  obtain ⟨g, rfl, hcx⟩ := hS.grown (World.grownBy_alloc w1 (.cells #[.int .i64 2, .int .i64 0, .string ⟨#[]⟩, .int .i64 5, .int .i64 0, .string ⟨#[]⟩, .int .i64 6, .int .i64 0, .string ⟨#[]⟩] 40) none)
  have t1 := hcx 1 (by simp)
  change _ = some (Value.string (bs T)) at t1
  have O0 := Lib.hid (show Own3 (w1.alloc (.cells #[.int .i64 2, .int .i64 0, .string ⟨#[]⟩, .int .i64 5, .int .i64 0, .string ⟨#[]⟩, .int .i64 6, .int .i64 0, .string ⟨#[]⟩] 40)) w1.heap.size (some ⟨w1.heap.size, 0, none⟩) 3 cand3 from World.ownsRow_lit (e := 40) (size := 3) w1 _ 3 (Nat.le_refl _) (by unfold maxLen; omega) rfl)
  have hgt : Hid (w.heap.size < w1.heap.size) := Lib.hid (by have := hg.size; simp at this; omega)
  clear hS hcx hg
  go_wp2_with fail
  obtain ⟨g0, hg0⟩ : ∃ g0, w1.heap.size = g0 := ⟨_, rfl⟩
  rw [hg0] at S0 O0 hgt ⊢
  have hlt0 : Hid (g0 < (w1.alloc (.cells #[.int .i64 2, .int .i64 0, .string ⟨#[]⟩, .int .i64 5, .int .i64 0, .string ⟨#[]⟩, .int .i64 6, .int .i64 0, .string ⟨#[]⟩] 40)).heap.size) := Lib.hid (by rw [← hg0]; simp)
  generalize w1.alloc _ = W at *
  clear cs hg0
  generalize digI T = V at *
  have HN := CellsAt.new W (ddC [(0, V, []), (1, 0, T), (3, 0, T), (4, 0, T)]).toArray 40
  have gx : W.grownBy (W.alloc (.cells (ddC [(0, V, []), (1, 0, T), (3, 0, T), (4, 0, T)]).toArray 40)).drew none := grownBy_drew (World.grownBy_alloc W _ none)
  obtain ⟨v', w3, hrun, hO, hgr, _⟩ := run_append_own (P := Tryz.prog) (w := (W.alloc (.cells (ddC [(0, V, []), (1, 0, T), (3, 0, T), (4, 0, T)]).toArray 40)).drew) g0 24 24 40 i0 (.agg #[.int .i64 0, .int .i64 0, .string ⟨#[]⟩]) 3 32 Tryz.underlying24 hi hz0 hz1 hz2 rfl (by decide) _ _ _ (O0.out.kept gx) ⟨W.heap.size, 0, none⟩ 4 4 (ddC [(0, V, []), (1, 0, T), (3, 0, T), (4, 0, T)]) rfl (news_dd HN) (ddC_one _) (by unfold maxLen; decide) (by decide) (by have := hlt0.out; have := gx.size; omega)
  rw [← ddC_app] at hO
  obtain ⟨a', cap', rfl, _, hO⟩ := own3_shape hO
  obtain ⟨g9, rfl⟩ := hO.way.resolve_left (by simp [cand3])
  have S9 := Lib.hid (start_many S0.out hO.at hgt.out (grownBy_trans gx (grownBy_refl _ _)) hgr)
  have hU2 := Lib.hid (show (W.alloc (.cells (ddC [(0, V, []), (1, 0, T), (3, 0, T), (4, 0, T)]).toArray 40)).drew.cell? ⟨g, 1, none⟩ = some (.string (bs T)) from (World.cell?_of_block (w := W) (gx.block _ (World.block_lt_of_cell? W _ t1) (by simp))).trans t1)
  have hgne : g ≠ g0 := fun e => by
    subst e
    have ho := World.ownsRow.cellAt (O0.out) 1 (by decide)
    rw [t1] at ho
    simp [cand3, ddC] at ho
  have hU3 := Lib.hid (show w3.cell? ⟨g, 1, none⟩ = some (.string (bs T)) from (World.cell?_of_block (hgr.block _ (World.block_lt_of_cell? _ _ hU2.out) (by simpa [Value.ownBlock] using hgne))).trans hU2.out)
  clear hO hgr HN gx hlt0 hgt S0 O0 hgne
  change (Builtin.append_ #[24, 24] 24 #[.slice (some ⟨g0, 0, none⟩) 3 3, .slice (some ⟨W.heap.size, 0, none⟩) 4 4]).run Tryz.prog (W.alloc (.cells #[.int .i64 0, .int .i64 V, .string ⟨#[]⟩, .int .i64 1, .int .i64 0, .string (bs T), .int .i64 3, .int .i64 0, .string (bs T), .int .i64 4, .int .i64 0, .string (bs T)] 40)).drew = .ok (.slice (some ⟨g9, 0, none⟩) 7 cap') w3 at hrun
  go_region_held_law (fun w' : World => w'.cell? ⟨g, 1, none⟩ = some (.string (bs T))) (first | exact t1 | exact hU2.out | exact hU3.out) (first | (go_at_call 76; refine (cg _).mono ?_; rintro e w2 ⟨rfl, rfl⟩) | (refine step_append_run (by rfl) _ _ _ (by rfl) (.slice (some ⟨g0, 0, none⟩) 3 3) (.slice (some ⟨W.heap.size, 0, none⟩) 4 4) (by rfl) (by rfl) (.slice (some ⟨g9, 0, none⟩) 7 cap') w3 hrun ?_))
  go_wp2_with fail
  have SS := S9
  clear hrun hO cg t1 hU2 hU3 S9
  go_loopw [6] (fun kv wr => SrRel l (cand3 ++ [(0, V, []), (1, 0, T), (3, 0, T), (4, 0, T)]) w g9 kv wr) (fun kv _ => ((cand3 ++ [(0, V, []), (1, 0, T), (3, 0, T), (4, 0, T)])).length - (intOf kv).toNat)
  case atStart => exact SS.out
  case round =>
    obtain ⟨k, hk, rfl, hall, hB, hX, hgr⟩ := hrel
    have HB := Lib.hid hB
    have HX := Lib.hid hX
    have HG := Lib.hid hgr
    have HA := Lib.hid hall
    have hk3 : k ≤ 7 := hk
    by_cases hlt3 : k < 7
    · have hlt : k < ((cand3 ++ [(0, V, []), (1, 0, T), (3, 0, T), (4, 0, T)])).length := hlt3
      clear hX hB hgr hall
      generalize hq : ((cand3 ++ [(0, V, []), (1, 0, T), (3, 0, T), (4, 0, T)])).getD k nilDd = q at *
      obtain ⟨K, N, T⟩ := q
      obtain ⟨x0, x1, x2⟩ := row_cells HX.out hlt hq
      by_cases hx : txD (K, N, T) = l
      · have c2 := stx_v K N T _ (by rw [hx])
        have hr := rdV_some (cand_yes h0 hx)
        unfold ddV at hr
        go_wp2_with (first | (go_at_call 90; refine (c2 _).mono ?_; rintro e w3 ⟨rfl, g3⟩; have H3 := Lib.hid (HB.out.grown g3); obtain ⟨⟨y0, y1, y2⟩, z0, z1, z2⟩ := set_facts H3.out; obtain ⟨u0, u1, u2⟩ := row_cells (HX.out.grown g3) hlt hq))
        exact bodyPost_ret (v := .tuple #[.agg #[.int .i64 K, .int .i64 N, .string (bs T)], .bool true]) (resDdB rfl _ rfl rfl (H3.out.put3 _ _ _)) rfl ⟨by first | rfl | exact (congrArg Ending.returned hr).symm, put3_grown _ (grownBy_trans HG.out g3) (Nat.le_refl _) _ _ _⟩
      · have c2 := stx_v K N T _ rfl
        have hne := bs_ne hx
        rw [← toL_bs (txD (K, N, T))] at hne
        generalize bs (txD (K, N, T)) = X at *
        go_wp2_with (first | (go_at_call 90; refine (c2 _).mono ?_; rintro e w3 ⟨rfl, g3⟩))
        go_roundw
        case rel => exact ⟨k + 1, by omega, by go_num, fun j hj => by
          by_cases e : j = k
          · rw [e, hq]; exact hx
          · exact HA.out j (by omega), HB.out.grown g3, HX.out.grown g3, grownBy_trans HG.out g3⟩
        case measure => simp [intOf]; omega
    · obtain rfl : k = 7 := by omega
      have hr := rdV_none (cand_no (s := l) (.inr (by rw [hcd]; exact all_none HA.out)))
      unfold ddV nilDd at hr
      obtain ⟨⟨y0, y1, y2⟩, z0, z1, z2⟩ := set_facts HB.out
      clear hX hB hgr hall
      go_wp2
      exact bodyPost_ret (v := .tuple #[.agg #[.int .i64 0, .int .i64 0, .string ⟨#[]⟩], .bool false]) (resDdB rfl _ rfl rfl (HB.out.put3 _ _ _)) rfl ⟨by first | rfl | exact (congrArg Ending.returned hr).symm, put3_grown _ HG.out (Nat.le_refl _) _ _ _⟩

set_option maxRecDepth 8000 in
set_option maxHeartbeats 4000000 in
theorem srd_nil (w : World) : Calls Tryz.prog 45 #[.string ⟨#[]⟩] w (RdDPost [] w) := by
  have cs := sct_any [] (by decide)
  unfold ScPost at cs
  have hr := rdV_none (cand_no (s := []) (.inl rfl))
  unfold ddV nilDd at hr
  unfold RdDPost
  rw [hr]
  go_enter Tryz.func45, Tryz.ntmps45
  go_wp2_with fail
  refine (cs _).mono ?_
  rintro e w1 ⟨a, cap, rfl, hS, hg⟩
  have S0 := Lib.hid (start_few (l := []) hg)
  clear hS cs
  have e1 : (cutL 32 []).length = 1 := rfl
  rw [e1]
  go_wp2_with fail
  obtain ⟨g0, hg0⟩ : ∃ g0, w1.heap.size = g0 := ⟨_, rfl⟩
  rw [hg0] at S0 ⊢
  generalize w1.alloc _ = W at *
  clear hg hg0
  go_loopw [6] (fun kv wr => (∃ k : Nat, k ≤ 3 ∧ kv = .int .i64 k) ∧ wr = W) (fun kv _ => 3 - (intOf kv).toNat)
  case atStart => exact ⟨⟨0, by omega, rfl⟩, rfl⟩
  case round =>
    obtain ⟨⟨k, hk, rfl⟩, rfl⟩ := hrel
    by_cases hlt : k < 3
    · go_wp2
      go_roundw
      case rel => exact ⟨⟨k + 1, by omega, by go_num⟩, by first | rfl | trivial⟩
      case measure => simp [intOf]; omega
    · obtain rfl : k = 3 := by omega
      have HB := Lib.hid S0.out.choose_spec.2.2.2.1
      have HG := Lib.hid S0.out.choose_spec.2.2.2.2.2
      obtain ⟨⟨y0, y1, y2⟩, z0, z1, z2⟩ := set_facts HB.out
      go_wp2
      exact bodyPost_ret (v := .tuple #[.agg #[.int .i64 0, .int .i64 0, .string ⟨#[]⟩], .bool false]) (resDdB rfl _ rfl rfl (HB.out.put3 _ _ _)) rfl ⟨rfl, put3_grown _ HG.out (Nat.le_refl _) _ _ _⟩
theorem srd_any (l : List UInt8) (hl : l.length ≤ 2097152) (w : World) : Calls Tryz.prog 45 #[.string (bs l)] w (RdDPost l w) := by
  by_cases h0 : l = []
  · subst h0; exact srd_nil w
  · by_cases hc : (cutL 32 l).length = 2
    · match hq : cutL 32 l, hc with
      | [A, T], _ => exact srd_many l A T hl h0 hq w
    · exact srd_few l hl h0 hc w

end Go.Proofs.YtlnffpofbfigaaaGreatDoor

/-
  The walk of FnExactReadDeed.
-/
namespace Go.Proofs.YtlnffpofbfigaaaGreatDoor
open Go.RowKit

theorem srd_v (l : List UInt8) (v : Value) (h : rdV l = v) (w : World) (hl : l.length ≤ 2097152) : Calls Tryz.prog 45 #[.string (bs l)] w fun e w' => e = .returned v ∧ w.grownBy w' none := by rw [← h]; exact srd_any l hl w
theorem rdV_ways (l : List UInt8) : ∃ (K N : Int) (T : List UInt8) (b : Bool), rdV l = .tuple #[.agg #[.int .i64 K, .int .i64 N, .string (bs T)], .bool b] := by
  cases h : rdD l with
  | none => exact ⟨0, 0, [], false, rdV_none h⟩
  | some a => exact ⟨a.1, a.2.1, a.2.2, true, rdV_some h⟩
end Go.Proofs.YtlnffpofbfigaaaGreatDoor

/-
  Journals read: the landed code's.
-/
namespace Go.Proofs.YtlnffpofbfigaaaGreatDoor
open Go.RowKit

def strLen : Value → Nat
  | .string s => s.size
  | _ => 0
theorem cut_v (l : List UInt8) (c : UInt8) (T B : List UInt8) (f : Bool) (h : Lib.cut l [c] = (T, B, f)) (w : World) (hl : l.length ≤ L48) :
    Calls Tryz.prog 43 #[.string (bs l), .string ⟨#[c]⟩] w fun e w' => e = .returned (.tuple #[.string (bs T), .string (bs B), .bool f]) ∧ w.grownBy w' none := by
  have hh := cut_any l c w hl
  unfold CutD at hh
  rw [h] at hh
  exact hh
def RjR (l : List UInt8) (w : World) (m : List Dd) (a : Option Addr) (cap n : Nat) (rs : List UInt8) (wr : World) : Prop :=
  n + rs.length = l.length ∧ rdJ l = (m ++ (rdJ rs).1, n + (rdJ rs).2) ∧ m.length ≤ n ∧ Own3 wr w.heap.size a cap m ∧ w.grownBy wr none
def RjRel (l : List UInt8) (w : World) (lv rv : Value) (wr : World) : Prop :=
  ∃ (m : List Dd) (a : Option Addr) (cap n : Nat) (rs : List UInt8), lv = .slice a m.length cap ∧ rv = .string (bs rs) ∧ RjR l w m a cap n rs wr
def RjPost (l : List UInt8) (w : World) (e : Ending) (w' : World) : Prop :=
  ∃ (a : Option Addr) (cap : Nat), e = .returned (.tuple #[.slice a (rdJ l).1.length cap, .int .i64 ((rdJ l).2 : Nat)]) ∧ Own3 w' w.heap.size a cap (rdJ l).1 ∧ w.grownBy w' none
theorem RjR.grown {l rs : List UInt8} {w wr w' : World} {m : List Dd} {a : Option Addr} {cap n : Nat} (h : RjR l w m a cap n rs wr) (g : wr.grownBy w' none) : RjR l w m a cap n rs w' :=
  ⟨h.1, h.2.1, h.2.2.1, h.2.2.2.1.kept g, grownBy_trans h.2.2.2.2 g⟩
theorem RjR.fin {l rs : List UInt8} {w wr : World} {m : List Dd} {a : Option Addr} {cap n : Nat} (h : RjR l w m a cap n rs wr) (k : rdJ rs = ([], 0)) : RjPost l w (.returned (.tuple #[.slice a m.length cap, .int .i64 (n : Nat)])) wr := by
  obtain ⟨_, h2, _, h4, h5⟩ := h
  rw [k] at h2
  simp only [List.append_nil, Nat.add_zero] at h2
  unfold RjPost
  rw [h2]
  exact ⟨a, cap, rfl, h4, h5⟩
theorem rj_wrap {l : List UInt8} {w wr : World} {v : Value} {x : Int} {n : Nat} (h : x = (n : Int)) (k : RjPost l w (.returned (.tuple #[v, .int .i64 (n : Nat)])) wr) : RjPost l w (.returned (.tuple #[v, .int .i64 x])) wr := by rw [h]; exact k
theorem RjR.next {l t r : List UInt8} {w wr : World} {m : List Dd} {a a' : Option Addr} {cap cap' n : Nat} {D : Dd} {w' : World} (h : RjR l w m a cap n (t ++ 10 :: r) wr) (ht : ∀ d ∈ t, d ≠ (10 : UInt8)) (k : rdD t = some D) (ho : Own3 w' w.heap.size a' cap' (m ++ [D])) (hg : w.grownBy w' none) : RjR l w (m ++ [D]) a' cap' (n + (t.length + 1)) r w' := by
  obtain ⟨h1, h2, h3, _, _⟩ := h
  rw [j_yes r ht k] at h2
  refine ⟨by simp at h1; omega, ?_, by simp; omega, ho, hg⟩
  rw [h2, List.append_assoc]
  simp only [List.singleton_append, Prod.mk.injEq, true_and]
  omega

set_option maxRecDepth 8000 in
set_option maxHeartbeats 4000000 in
theorem irj_any (l : List UInt8) (hl : l.length ≤ 1099511627776) (w : World) (hT : WdAt w) (hE : ErAt w) :
    Calls Tryz.prog 9 #[.string (bs l)] w (RjPost l w) := by
  have HT := Lib.hid hT
  have HE := Lib.hid hE
  have HL := Lib.hid hl
  clear hT hE hl
  obtain ⟨i0, hi, hz0, hz1, hz2⟩ := info_parts infoDd
  obtain ⟨s, hs⟩ : ∃ s, s = bs l := ⟨_, rfl⟩
  have HSz := Lib.hid (show s.size = l.length by rw [hs, bs_size])
  have HS := Lib.hid hs
  rw [← hs]
  clear hs
  go_enter Tryz.func9, Tryz.ntmps9
  go_wp2_with fail
  go_loopw [4, 5] (fun lv rv wr => RjRel l w lv rv wr) (fun _ rv _ => strLen rv)
  case atStart => exact ⟨[], none, 0, 0, l, rfl, by rw [HS.out], by omega, by simp, by simp, Own3.nil _ _, grownBy_refl _ _⟩
  case round =>
    obtain ⟨m, a, cap, n, rs, rfl, rfl, hR⟩ := hrel
    have HR := Lib.hid hR
    have hn := hR.1
    have hmn := Lib.hid hR.2.2.1
    have HN := Lib.hid hn
    have hRL : Hid (rs.length ≤ L48) := Lib.hid (by have := HL.out; unfold L48; omega)
    clear hR
    obtain ⟨R, hRr⟩ : ∃ R, R = bs rs := ⟨_, rfl⟩
    have HRr := Lib.hid hRr
    have HRs := Lib.hid (show R.size = rs.length by rw [hRr, bs_size])
    have hw : wrap64 ((s.size : Int) - (R.size : Int)) = (n : Int) := by rw [HSz.out, HRs.out]; have := HL.out; unfold wrap64; omega
    rcases cut_ways 10 rs with hmiss | ⟨t, r, e, ht⟩
    · have cc := fun w => cut_v rs 10 _ _ _ (cut_miss hmiss) w hRL.out
      obtain ⟨K, N, T, b, hv⟩ := rdV_ways rs
      have cd := fun w hT hE => ird_v rs _ hv w hT hE hRL.out
      rw [← hRr] at cc cd ⊢
      rw [show bs ([] : List UInt8) = ⟨#[]⟩ from rfl] at cc
      have hfin := Lib.hid (j_miss hmiss)
      clear hmiss hv hRr hn
      have HR1 := Lib.hid (fun w1 (g : wr.grownBy w1 none) => HR.out.grown g)
      go_wp2_with fail
      refine (cc _).mono ?_
      rintro e w1 ⟨rfl, g1⟩
      have G1 := Lib.hid g1
      clear g1 cc
      go_wp2_with fail
      refine (cd _ (HT.out.grown (HR.out.grown G1.out).2.2.2.2) (HE.out.grown (HR.out.grown G1.out).2.2.2.2)).mono ?_
      rintro e w2 ⟨rfl, g2⟩
      have G2 := Lib.hid (grownBy_trans (grownBy_trans G1.out g2) (World.grownBy_alloc w2 (.cells #[.int .i64 K, .int .i64 N, .string (bs T)] 40) none))
      clear g2 cd
      go_wp2_with fail
      refine bodyPost_ret (results_tmp2 rfl _ _ _) rfl ?_
      exact rj_wrap hw ((HR.out.grown G2.out).fin hfin.out)
    · subst e
      have ecut := cut_hit r ht
      have cc := fun w => cut_v (t ++ 10 :: r) 10 _ _ _ ecut w hRL.out
      have hlt : t.length ≤ L48 := by have := hRL.out; simp at this; omega
      cases hq : rdD t with
      | none =>
        have cd := fun w hT hE => ird_v t _ (rdV_none hq) w hT hE hlt
        rw [← hRr] at cc ⊢
        unfold ddV nilDd at cd
        rw [show bs ([] : List UInt8) = ⟨#[]⟩ from rfl] at cd
        have hfin := Lib.hid (j_no r ht hq)
        clear hq hRr hn ht ecut hlt
        generalize bs t = U at *
        generalize bs r = V at *
        go_wp2_with fail
        refine (cc _).mono ?_
        rintro e w1 ⟨rfl, g1⟩
        have G1 := Lib.hid g1
        clear g1 cc
        go_wp2_with fail
        refine (cd _ (HT.out.grown (HR.out.grown G1.out).2.2.2.2) (HE.out.grown (HR.out.grown G1.out).2.2.2.2)).mono ?_
        rintro e w2 ⟨rfl, g2⟩
        have G2 := Lib.hid (grownBy_trans (grownBy_trans G1.out g2) (World.grownBy_alloc w2 (.cells #[.int .i64 0, .int .i64 0, .string ⟨#[]⟩] 40) none))
        clear g2 cd
        go_wp2_with fail
        refine bodyPost_ret (results_tmp2 rfl _ _ _) rfl ?_
        exact rj_wrap hw ((HR.out.grown G2.out).fin hfin.out)
      | some D =>
        obtain ⟨K, N, T⟩ := D
        have cd := fun w hT hE => ird_v t _ (rdV_some hq) w hT hE hlt
        rw [← hRr] at cc ⊢
        unfold ddV at cd
        have HTn := Lib.hid ht
        have HQ := Lib.hid hq
        obtain ⟨V, hV⟩ : ∃ V, V = bs r := ⟨_, rfl⟩
        have HV := Lib.hid hV
        have hVs : Hid (V.size < R.size) := Lib.hid (by rw [hV, bs_size, HRs.out]; simp; omega)
        rw [← hV] at cc
        clear hq hRr hn ht ecut hlt hV
        generalize bs t = U at *
        go_wp2_with fail
        refine (cc _).mono ?_
        rintro e w1 ⟨rfl, g1⟩
        have G1 := Lib.hid g1
        clear g1 cc
        go_wp2_with fail
        refine (cd _ (HT.out.grown (HR.out.grown G1.out).2.2.2.2) (HE.out.grown (HR.out.grown G1.out).2.2.2.2)).mono ?_
        rintro e w2 ⟨rfl, g2⟩
        have gA := World.grownBy_alloc w2 (.cells #[.int .i64 K, .int .i64 N, .string (bs T)] 40) none
        have gB := World.grownBy_alloc (w2.alloc (.cells #[.int .i64 K, .int .i64 N, .string (bs T)] 40)) (.cells #[.int .i64 K, .int .i64 N, .string (bs T)] 40) none
        have HR2 := Lib.hid (HR.out.grown (grownBy_trans (grownBy_trans (grownBy_trans G1.out g2) gA) gB))
        have HN2 := Lib.hid (CellsAt.second w2 (.cells #[.int .i64 K, .int .i64 N, .string (bs T)] 40) #[.int .i64 K, .int .i64 N, .string (bs T)] 40)
        have hsz := HR2.out.2.2.2.2.size
        have hm1 : m.length + 1 ≤ 1099511627777 := by have := hmn.out; have := HN.out; have := HL.out; omega
        clear g2 cd gA gB
        go_wp2_with (at_builtin; refine wpList_append_own _ rfl _ _ 24 rfl w.heap.size 40 i0 (.agg #[.int .i64 0, .int .i64 0, .string ⟨#[]⟩]) 3 32 Tryz.underlying24 hi hz0 hz1 hz2 rfl (by decide) _ _ _ rfl HR2.out.2.2.2.1 ⟨w2.heap.size + 1, 0, none⟩ 1 1 (ddC [(K, N, T)]) rfl rfl (ddC_news HN2.out) (ddC_one [(K, N, T)]) (by unfold maxLen; omega) (by omega) hsz ?_; intro v' w4 hown' hgrow _; obtain ⟨a4, cap4, rfl, ho4⟩ := own3_more hown'; have HR4 := Lib.hid (HR2.out.next HTn.out HQ.out ho4 (grow_own3 HR2.out.2.2.2.2 HR2.out.2.2.2.1 (Nat.le_refl _) hgrow)); clear hown' hgrow ho4)
        go_roundw
        case rel => exact ⟨m ++ [(K, N, T)], a4, cap4, n + (t.length + 1), r, by simp, by rw [HV.out], HR4.out⟩
        case measure => simp only [strLen]; exact hVs.out

end Go.Proofs.YtlnffpofbfigaaaGreatDoor

/-
  The answer to a line that is no deed: the landed code's.
-/
namespace Go.Proofs.YtlnffpofbfigaaaGreatDoor
open Go.RowKit Go.Maps Go.Joins

theorem fNoSp {t : List UInt8} (h : isF t = true) : ∀ c ∈ t, c ≠ (32 : UInt8) := fun c hc => (isF_noSp h c hc).1
/-- As the landed code takes a line apart. -/
def ansW (n : Int) (l T B : List UInt8) : ByteArray := if T = [97, 116] then atA n l B else if T = [102, 114, 111, 109] then fromA n l B else whatA
theorem ansW_eq (n : Int) (l line : List UInt8) : ansO n l line = ansW n l (Lib.cut line [32]).1 (Lib.cut line [32]).2.1 := by
  rcases cut_ways 32 line with hm | ⟨t, r, rfl, ht⟩
  · rw [ansO_one hm, cut_miss hm]
    unfold ansW
    split
    · rw [atA_no]; simp [cutL_one]
    · split
      · have e0 : isF [] = false := by decide
        show whatA = (if isF [] = true then yesA (folI n [[]] l) else whatA)
        rw [if_neg (by rw [e0]; simp)]
      · rfl
  · rw [cut_hit r ht]
    unfold ansO ansW
    rw [cutL_more r ht]
    show (match t :: cutL 32 r with
      | [f, x] => if f = [102, 114, 111, 109] ∧ isF x = true then yesA (folI n [x] l) else whatA
      | [a, x, y, z] => if a = [97, 116] then ansA n l x y z else whatA
      | _ => whatA) = if t = [97, 116] then atA n l r else if t = [102, 114, 111, 109] then fromA n l r else whatA
    by_cases hat : t = [97, 116]
    · rw [if_pos hat]
      have hf : ¬ (t = [102, 114, 111, 109]) := by rw [hat]; decide
      split
      · rename_i f x e
        injection e with e1 e2
        subst e1
        rw [if_neg (fun k => hf k.1), atA_no (by rw [e2]; simp)]
      · rename_i a x y z e
        injection e with e1 e2
        subst e1
        rw [if_pos hat, atA_yes e2]
      · rename_i h1 h2
        rw [atA_no]
        intro e
        match hh : cutL 32 r, e with
        | [x, y, z], _ => exact h2 t x y z (by rw [hh])
    · rw [if_neg hat]
      by_cases hf : t = [102, 114, 111, 109]
      · rw [if_pos hf]
        unfold fromA
        split
        · rename_i f x e
          injection e with e1 e2
          subst e1
          have hr : r = x := by have := cutL_join 32 r; rw [e2] at this; exact this.symm
          subst hr
          by_cases hi : isF r = true
          · rw [if_pos ⟨hf, hi⟩, if_pos hi]
          · rw [if_neg (fun k => hi k.2), if_neg hi]
        · rename_i a x y z e
          injection e with e1 e2
          subst e1
          rw [if_neg hat, if_neg]
          intro hi
          rw [cutL_one (fNoSp hi)] at e2
          exact absurd (congrArg List.length e2) (by simp)
        · rename_i h1 h2
          rw [if_neg]
          intro hi
          exact h1 t r (by rw [cutL_one (fNoSp hi)])
      · rw [if_neg hf]
        split
        · rename_i f x e
          injection e with e1 e2
          subst e1
          rw [if_neg (fun k => hf k.1)]
        · rename_i a x y z e
          injection e with e1 e2
          subst e1
          rw [if_neg hat]
        · rfl

theorem asked_any (q : Nat) (hq : q < 9) (N : Nat) (s : List UInt8) (x : Value) (w : World) (h : NowOk N s) :
    Calls Tryz.prog (askF q) #[.agg #[.int .i64 N, .string (bs s), x]] w (AnPost (ansQ N s q) w) := by
  match q, hq with
  | 0, _ => exact q0_any N s x w h
  | 1, _ => exact q1_any N s x w
  | 2, _ => exact q2_any N s x w
  | 3, _ => exact q3_any N s x w
  | 4, _ => exact q4_any N s x w h
  | 5, _ => exact q5_any N s x w
  | 6, _ => exact q6_any N s x w h
  | 7, _ => exact q7_any N s x w h
  | 8, _ => exact q8_any N s x w h
set_option maxRecDepth 100000 in
theorem asked_enter (q : Nat) (hq : q < 9) : ∀ args w, (callFunc (askF q) args).run Tryz.prog w = .ok (.enter (askF q) args) w := by
  match q, hq with
  | 0, _ => exact fun _ _ => by kernel_rfl
  | 1, _ => exact fun _ _ => by kernel_rfl
  | 2, _ => exact fun _ _ => by kernel_rfl
  | 3, _ => exact fun _ _ => by kernel_rfl
  | 4, _ => exact fun _ _ => by kernel_rfl
  | 5, _ => exact fun _ _ => by kernel_rfl
  | 6, _ => exact fun _ _ => by kernel_rfl
  | 7, _ => exact fun _ _ => by kernel_rfl
  | 8, _ => exact fun _ _ => by kernel_rfl

set_option maxRecDepth 8000 in
set_option maxHeartbeats 2000000 in
theorem ians_q (q : Nat) (N : Nat) (s l : List UInt8) (x : Value) (w : World) (h : NowOk N s) (hq : askW[q]? = some l) :
    Calls Tryz.prog 51 #[.agg #[.int .i64 N, .string (bs s), x], .string (bs l)] w (AnPost (ansD N s l) w) := by
  have hq9 : q < 9 := (List.getElem?_eq_some_iff.1 hq).1
  have gA := Lib.hid (World.grownBy_alloc w (.cells #[.int .i64 N, .string (bs s), x] 32) none)
  have HB := Lib.hid (CellsAt.new w #[.int .i64 N, .string (bs s), x] 32)
  have hm := ques_any (w.alloc (.cells #[.int .i64 N, .string (bs s), x] 32))
  unfold QuesPost at hm
  have hlen : l.length ≤ maxLen := by
    have hmem : l ∈ askW := List.mem_of_getElem? hq
    have : ∀ m ∈ askW, m.length ≤ maxLen := by decide
    exact this l hmem
  have hlook : ∀ (W : World) (b n : Nat), W.ownsMap Tryz.prog 9 anyElem b n quesD → (Instr.lookup 125 (.map (some b)) (.string (bs l)) true).run Tryz.prog W = .ok (.tuple #[fnV (askF q), .bool true]) W := fun W b n ho => look_own ho keyedS Tryz.underlying125 (zeroAsk W) (wQ_of l hlen) (ques_in hq).1 (ques_in hq).2
  have cq := fun W => asked_any q hq9 N s x W h
  have he := asked_enter q hq9
  rw [ansD_q hq]
  generalize ansQ N s q = Y at *
  unfold fnV at hlook
  generalize askF q = F at *
  clear hq hlen h
  generalize bs l = L at *
  go_enter Tryz.func51, Tryz.ntmps51
  go_wp2_with fail
  refine hm.mono ?_
  rintro e w1 ⟨rfl, ho, g1⟩
  have hl1 := hlook w1 _ _ ho
  rw [show (w.alloc (.cells #[.int .i64 N, .string (bs s), x] 32)).heap.size = w.heap.size + 1 by simp] at hl1
  obtain ⟨c0, c1, c2⟩ := (HB.out.grown g1).three
  have G1 := Lib.hid (grownBy_trans gA.out g1)
  clear ho g1 hm hlook
  go_wp2_with fail
  refine (cq w1).mono ?_
  rintro e w2 ⟨rfl, g2⟩
  go_wp2_with fail
  go_ret
  exact ⟨rfl, grownBy_trans G1.out g2⟩

set_option maxRecDepth 8000 in
set_option maxHeartbeats 4000000 in
theorem ians_o (N : Nat) (s l : List UInt8) (x : Value) (w : World) (hq : l ∉ askW) (hl : l.length ≤ 2097152) (hE : ErAt w) :
    Calls Tryz.prog 51 #[.agg #[.int .i64 N, .string (bs s), x], .string (bs l)] w (AnPost (ansD N s l) w) := by
  have gA := Lib.hid (World.grownBy_alloc w (.cells #[.int .i64 N, .string (bs s), x] 32) none)
  have HB := Lib.hid (CellsAt.new w #[.int .i64 N, .string (bs s), x] 32)
  have hm := ques_any (w.alloc (.cells #[.int .i64 N, .string (bs s), x] 32))
  unfold QuesPost at hm
  have hlook : ∀ (W : World) (b n : Nat), W.ownsMap Tryz.prog 9 anyElem b n quesD → (Instr.lookup 125 (.map (some b)) (.string (bs l)) true).run Tryz.prog W = .ok (.tuple #[.nilFunc, .bool false]) W := fun W b n ho => by
    obtain ⟨u, ps, hrun, hu⟩ := ho.look_ok keyedS Tryz.underlying125 (zeroAsk W) (zd := .held .nilFunc) (zp := []) rfl (wQ_of l (by unfold maxLen; omega))
    rw [(ques_out hq).1] at hu
    rw [(ques_out hq).2] at hrun
    simp [anyElem] at hu
    rw [hrun, hu.1]
  obtain ⟨T, B, f, hcut⟩ : ∃ T B f, Lib.cut l [32] = (T, B, f) := ⟨_, _, _, rfl⟩
  have cc := fun W => cut_v l 32 T B f hcut W (by unfold L48; omega)
  have hBl : B.length ≤ 2097152 := by have := (cut_len l 32).2; rw [hcut] at this; exact Nat.le_trans this hl
  have e := ansW_eq N s l
  rw [hcut] at e
  rw [ansD_o hq, e]
  have ca := fun W hE => iat_any N s B x W hBl hE
  have cf := fun W => from_any N s B x W
  have HE := Lib.hid hE
  clear hq hl hE e hcut hBl
  show Calls _ _ _ _ (AnPost (ansW N s T B) w)
  generalize bs l = L at *
  by_cases hat : T = [97, 116]
  · have e1 : ansW N s T B = atA N s B := by unfold ansW; rw [if_pos hat]
    rw [e1]
    subst hat
    rw [show bs [97, 116] = (⟨#[97, 116]⟩ : ByteArray) from rfl] at cc
    clear e1 cf
    generalize atA N s B = Y at *
    generalize bs B = BB at *
    go_enter Tryz.func51, Tryz.ntmps51
    go_wp2_with fail
    refine hm.mono ?_
    rintro e w1 ⟨rfl, ho, g1⟩
    have hl1 := hlook w1 _ _ ho
    rw [show (w.alloc (.cells #[.int .i64 N, .string (bs s), x] 32)).heap.size = w.heap.size + 1 by simp] at hl1
    have G1 := Lib.hid (grownBy_trans gA.out g1)
    have HB1 := Lib.hid (HB.out.grown g1)
    clear ho g1 hm hlook
    go_wp2_with fail
    refine (cc _).mono ?_
    rintro e w2 ⟨rfl, g2⟩
    obtain ⟨c0, c1, c2⟩ := (HB1.out.grown g2).three
    have G2 := Lib.hid (grownBy_trans G1.out g2)
    clear g2 cc
    go_wp2_with fail
    refine (ca _ (HE.out.grown G2.out)).mono ?_
    rintro e w3 ⟨rfl, g3⟩
    go_wp2_with fail
    go_ret
    exact ⟨rfl, grownBy_trans G2.out g3⟩
  by_cases hf : T = [102, 114, 111, 109]
  · have e1 : ansW N s T B = fromA N s B := by unfold ansW; rw [if_neg hat, if_pos hf]
    rw [e1]
    subst hf
    rw [show bs [102, 114, 111, 109] = (⟨#[102, 114, 111, 109]⟩ : ByteArray) from rfl] at cc
    clear e1 ca hat
    generalize fromA N s B = Y at *
    generalize bs B = BB at *
    go_enter Tryz.func51, Tryz.ntmps51
    go_wp2_with fail
    refine hm.mono ?_
    rintro e w1 ⟨rfl, ho, g1⟩
    have hl1 := hlook w1 _ _ ho
    rw [show (w.alloc (.cells #[.int .i64 N, .string (bs s), x] 32)).heap.size = w.heap.size + 1 by simp] at hl1
    have G1 := Lib.hid (grownBy_trans gA.out g1)
    have HB1 := Lib.hid (HB.out.grown g1)
    clear ho g1 hm hlook
    go_wp2_with fail
    refine (cc _).mono ?_
    rintro e w2 ⟨rfl, g2⟩
    obtain ⟨c0, c1, c2⟩ := (HB1.out.grown g2).three
    have G2 := Lib.hid (grownBy_trans G1.out g2)
    clear g2 cc
    go_wp2_with fail
    refine (cf _).mono ?_
    rintro e w3 ⟨rfl, g3⟩
    go_wp2_with fail
    go_ret
    exact ⟨rfl, grownBy_trans G2.out g3⟩
  · have e1 : ansW N s T B = whatA := by unfold ansW; rw [if_neg hat, if_neg hf]
    rw [e1]
    have n1 := bs_ne (l := T) (m := [97, 116]) (fun e => hat e.symm)
    have n2 := bs_ne (l := T) (m := [102, 114, 111, 109]) (fun e => hf e.symm)
    have n3 : ((bs T).toList == [97, 116]) = false := by rw [toL_bs]; exact beq_false_of_ne hat
    have n4 : ((bs T).toList == [102, 114, 111, 109]) = false := by rw [toL_bs]; exact beq_false_of_ne hf
    clear e1 ca cf hat hf
    generalize bs T = TT at *
    generalize bs B = BB at *
    go_enter Tryz.func51, Tryz.ntmps51
    go_wp2_with fail
    refine hm.mono ?_
    rintro e w1 ⟨rfl, ho, g1⟩
    have hl1 := hlook w1 _ _ ho
    rw [show (w.alloc (.cells #[.int .i64 N, .string (bs s), x] 32)).heap.size = w.heap.size + 1 by simp] at hl1
    have G1 := Lib.hid (grownBy_trans gA.out g1)
    clear ho g1 hm hlook
    go_wp2_with fail
    refine (cc _).mono ?_
    rintro e w2 ⟨rfl, g2⟩
    go_wp2_with fail
    go_ret
    exact ⟨rfl, grownBy_trans G1.out g2⟩

/-- The answer to any line that is no deed. -/
theorem ianswer_any (N : Nat) (s l : List UInt8) (x : Value) (w : World) (h : NowOk N s) (hl : l.length ≤ 2097152) (hE : ErAt w) :
    Calls Tryz.prog 51 #[.agg #[.int .i64 N, .string (bs s), x], .string (bs l)] w (AnPost (ansD N s l) w) := by
  by_cases hq : l ∈ askW
  · obtain ⟨q, hq'⟩ := List.getElem?_of_mem hq
    exact ians_q q N s l x w h hq'
  · exact ians_o N s l x w hq hl hE

end Go.Proofs.YtlnffpofbfigaaaGreatDoor
