/-
  Joined out of the texts DVd, DVe, DVf: what each holds is told at its head.
-/
import Derived.Test.YtlnffpofbfigaaaGreatDoorNfa7a466a
import Derived.Test.YtlnffpofbfigaaaGreatDoorM323050c2
import Derived.Test.YtlnffpofbfigaaaGreatDoorMa5d7fcb1
import Derived.Test.YtlnffpofbfigaaaGreatDoorN5872d5ed
import Derived.Test.YtlnffpofbfigaaaGreatDoorM17364382
import Derived.Test.YtlnffpofbfigaaaGreatDoorM377be3a7

/-
  What the answers are made of is small; the questions of one word: the landed code's.
-/
namespace Go.Proofs.YtlnffpofbfigaaaGreatDoor
open Go.RowKit

/-- The chain and the formula of a desk. -/
def NowOk (N : Nat) (l : List UInt8) : Prop := (1 ≤ N ∧ N ≤ 6) ∧ ∃ t : Tr, fOf l = some t
theorem lsI_99 {N : Nat} {l : List UInt8} (h : NowOk N l) : ∃ k : Nat, lsI l = k ∧ k < 100 := by
  obtain ⟨_, t, ht⟩ := h
  have := (fOf_some ht).2
  have := ls_le t
  exact ⟨t.ls, lsI_t ht, by omega⟩
theorem movI_99 {N : Nat} {l : List UInt8} (h : NowOk N l) : ∃ k : Nat, movI N l = k ∧ k < 100 := by
  obtain ⟨hN, t, ht⟩ := h
  have h1 := (fOf_some ht).2
  have h2 := ls_le t
  have h3 := movU_le hN t (cub N) (Nat.le_refl _)
  have h4 := movU_pos N t (cub N)
  obtain ⟨k, hk⟩ := Int.eq_ofNat_of_zero_le h4
  refine ⟨k, by rw [movI_t ht (inB_nat hN), hk], by omega⟩
theorem chI_99 (l : List UInt8) : Num99 (chI l) ∧ (chI l).length ≤ 6 := by
  refine ⟨fun x hx => ?_, ?_⟩
  · unfold chI at hx
    have := List.mem_filter.1 hx
    have := this.1
    simp at this
    omega
  · unfold chI
    exact Nat.le_trans (List.length_filter_le _ _) (by simp)
theorem saidL_99 {N : Nat} {l : List UInt8} (h : NowOk N l) : Num99 (saidL N l) ∧ (saidL N l).length ≤ 7 := by
  obtain ⟨hN, t, ht⟩ := h
  rw [saidL_t ht (inB_nat hN)]
  refine ⟨fun x hx => ?_, by rw [saidTo_len]; omega⟩
  obtain ⟨v, hv, rfl⟩ := List.mem_map.1 hx
  have hv' := List.mem_range.1 hv
  have := vokB_of (val_ok (thr_nat hN (a := v) (b := v) (c := v) (by omega) (by omega) (by omega)) t)
  omega
theorem agL_99 {N : Nat} {l : List UInt8} (h : NowOk N l) : Num99 (agL N l) ∧ (agL N l).length ≤ 3 := by
  obtain ⟨hN, _⟩ := h
  unfold agL
  split
  · rename_i k _
    rw [Int.toNat_natCast]
    have a := tA_le N k
    have b := tB_le N k
    have c := tC_le N k
    refine ⟨fun x hx => ?_, by simp⟩
    simp at hx
    rcases hx with rfl | rfl | rfl <;> omega
  · exact ⟨fun x hx => by simp at hx, by simp⟩

def AnPost (v : ByteArray) (w : World) (e : Ending) (w' : World) : Prop := e = .returned (.string v) ∧ w.grownBy w' none

set_option maxRecDepth 8000 in
set_option maxHeartbeats 2000000 in
theorem q0_any (N : Nat) (s : List UInt8) (x : Value) (w : World) (h : NowOk N s) :
    Calls Tryz.prog 122 #[.agg #[.int .i64 N, .string (bs s), x]] w (AnPost (ansQ N s 0) w) := by
  have ci := itoa2_any N (by have := h.1; omega)
  have g1 := World.grownBy_alloc w (.cells #[.int .i64 N, .string (bs s), x] 32) none
  go_enter Tryz.func122, Tryz.ntmps122
  go_wp2_with (first | (go_at_call 54; (with_reducible refine (ci _).mono ?_); rintro e w2 ⟨rfl, rfl⟩))
  go_ret
  exact ⟨rfl, g1⟩

end Go.Proofs.YtlnffpofbfigaaaGreatDoor

/-
  The questions of one word, the others: the landed code's.
-/
namespace Go.Proofs.YtlnffpofbfigaaaGreatDoor
open Go.RowKit

set_option maxRecDepth 8000 in
set_option maxHeartbeats 2000000 in
theorem q1_any (N : Nat) (s : List UInt8) (x : Value) (w : World) :
    Calls Tryz.prog 123 #[.agg #[.int .i64 N, .string (bs s), x]] w (AnPost (ansQ N s 1) w) := by
  have g1 := World.grownBy_alloc w (.cells #[.int .i64 N, .string (bs s), x] 32) none
  go_enter Tryz.func123, Tryz.ntmps123
  go_wp2_with fail
  go_ret
  exact ⟨rfl, g1⟩

set_option maxRecDepth 8000 in
set_option maxHeartbeats 2000000 in
theorem q2_any (N : Nat) (s : List UInt8) (x : Value) (w : World) :
    Calls Tryz.prog 124 #[.agg #[.int .i64 N, .string (bs s), x]] w (AnPost (ansQ N s 2) w) := by
  have g1 := Lib.hid (World.grownBy_alloc w (.cells #[.int .i64 N, .string (bs s), x] 32) none)
  have ca := always_any N (bs s)
  rw [bl_bs] at ca
  show Calls _ _ _ _ (AnPost (yesA (alwB N s)) w)
  generalize alwB N s = b at *
  have cy := iyes_any b
  generalize yesA b = Y at *
  go_enter Tryz.func124, Tryz.ntmps124
  go_wp2_with (first | (go_at_call 150; (with_reducible refine (ca _).mono ?_); rintro e w2 ⟨rfl, hg⟩) | (go_at_call 134; (with_reducible refine (cy _).mono ?_); rintro e w3 ⟨rfl, rfl⟩))
  go_ret
  exact ⟨rfl, grownBy_trans g1.out hg⟩

set_option maxRecDepth 8000 in
set_option maxHeartbeats 2000000 in
theorem q3_any (N : Nat) (s : List UInt8) (x : Value) (w : World) :
    Calls Tryz.prog 125 #[.agg #[.int .i64 N, .string (bs s), x]] w (AnPost (ansQ N s 3) w) := by
  have g1 := Lib.hid (World.grownBy_alloc w (.cells #[.int .i64 N, .string (bs s), x] 32) none)
  have HB := Lib.hid (CellsAt.new w #[.int .i64 N, .string (bs s), x] 32)
  have ca := least_any N (bs s)
  rw [bl_bs] at ca
  show Calls _ _ _ _ (AnPost (vtext N (leastI N s)) w)
  generalize leastI N s = v at *
  have ct := text_any N v
  unfold StrPost at ct
  generalize vtext N v = Y at *
  go_enter Tryz.func125, Tryz.ntmps125
  go_wp2_with fail
  go_region_with (first | (go_at_call 151; (with_reducible refine (ca _).mono ?_); rintro e w2 ⟨rfl, hg⟩; obtain ⟨c0, c1, c2⟩ := (HB.out.grown (drew_grown hg)).three; have G2 := Lib.hid (drew_grown hg)) | (go_at_call 133; (with_reducible refine (ct _).mono ?_); rintro e w3 ⟨rfl, hg2⟩))
  all_goals go_wp2_with fail
  all_goals go_ret
  all_goals exact ⟨rfl, grownBy_trans g1.out (grownBy_trans G2.out hg2)⟩

set_option maxRecDepth 8000 in
set_option maxHeartbeats 2000000 in
theorem q4_any (N : Nat) (s : List UInt8) (x : Value) (w : World) (h : NowOk N s) :
    Calls Tryz.prog 126 #[.agg #[.int .i64 N, .string (bs s), x]] w (AnPost (ansQ N s 4) w) := by
  have g1 := Lib.hid (World.grownBy_alloc w (.cells #[.int .i64 N, .string (bs s), x] 32) none)
  have ca := agof_any N (bs s)
  rw [bl_bs] at ca
  show Calls _ _ _ _ (AnPost (rowA (agL N s)) w)
  cases hk : agI N s with
  | none =>
    rw [agV_n hk] at ca
    have e : agL N s = [] := by unfold agL; rw [hk]
    rw [e, rowA_nil]
    clear e hk
    go_enter Tryz.func126, Tryz.ntmps126
    go_wp2_with (first | (go_at_call 152; (with_reducible refine (ca _).mono ?_); rintro e w2 ⟨rfl, hg⟩))
    go_ret
    exact ⟨rfl, grownBy_trans g1.out hg⟩
  | some k =>
    rw [agV_s hk] at ca
    have e : agL N s = [(tA N k : Int), (tB N k : Int), (tC N k : Int)] := by unfold agL; rw [hk]; rfl
    have hb := agL_99 h
    rw [e] at hb ⊢
    have cn : ∀ W : World, Calls Tryz.prog 153 #[.slice (some ⟨W.heap.size, 0, none⟩) 3 3] (W.alloc (.cells #[.int .i64 (tA N k), .int .i64 (tB N k), .int .i64 (tC N k)] 3)) fun e w' => e = .returned (.string (rowA [(tA N k : Int), (tB N k : Int), (tC N k : Int)])) ∧ (W.alloc (.cells #[.int .i64 (tA N k), .int .i64 (tB N k), .int .i64 (tC N k)] 3)).grownBy w' none := fun W => by
      have hc := CellsAt.new W #[.int .i64 (tA N k), .int .i64 (tB N k), .int .i64 (tC N k)] 3
      exact nums_any [(tA N k : Int), (tB N k : Int), (tC N k : Int)] hb.1 (by simp) (some ⟨W.heap.size, 0, none⟩) 3 _ ⟨by unfold maxLen; simp, .inr ⟨W.heap.size, 0, rfl, hc.lt, fun i hi => by
        match i, hi with
        | 0, _ => exact hc.cell rfl
        | 1, _ => exact hc.cell rfl
        | 2, _ => exact hc.cell rfl⟩⟩
    clear e hk hb
    generalize (tA N k : Int) = A0 at *
    generalize (tB N k : Int) = B0 at *
    generalize (tC N k : Int) = C0 at *
    generalize rowA [A0, B0, C0] = Y at *
    go_enter Tryz.func126, Tryz.ntmps126
    go_wp2_with (first | (go_at_call 152; (with_reducible refine (ca _).mono ?_); rintro e w2 ⟨rfl, hg⟩) | (go_at_call 153; (with_reducible refine (cn _).mono ?_); rintro e w3 ⟨rfl, hg3⟩))
    go_ret
    exact ⟨rfl, grownBy_trans (grownBy_trans g1.out hg) (grownBy_trans (World.grownBy_alloc _ _ none) hg3)⟩

set_option maxRecDepth 8000 in
set_option maxHeartbeats 2000000 in
theorem q5_any (N : Nat) (s : List UInt8) (x : Value) (w : World) :
    Calls Tryz.prog 127 #[.agg #[.int .i64 N, .string (bs s), x]] w (AnPost (ansQ N s 5) w) := by
  have g1 := Lib.hid (World.grownBy_alloc w (.cells #[.int .i64 N, .string (bs s), x] 32) none)
  have ca := chains_any (bs s)
  rw [bl_bs] at ca
  unfold IntsPost at ca
  show Calls _ _ _ _ (AnPost (rowA (chI s)) w)
  obtain ⟨hb, hl⟩ := chI_99 s
  generalize chI s = L at *
  have cn := fun a cap W h => nums_any L hb (by omega) a cap W h
  have HL := Lib.hid (show L.length ≤ maxLen by unfold maxLen; omega)
  clear hb hl
  generalize rowA L = Y at *
  go_enter Tryz.func127, Tryz.ntmps127
  go_wp2_with (first | (go_at_call 154; (with_reducible refine (ca _).mono ?_); rintro e w2 ⟨a, cap, rfl, ho, hg⟩; have HO := Lib.hid (ho.at HL.out); clear ho) | (go_at_call 153; (with_reducible refine (cn _ _ _ HO.out).mono ?_); rintro e w3 ⟨rfl, hg3⟩))
  go_ret
  exact ⟨rfl, grownBy_trans (grownBy_trans g1.out hg) hg3⟩

set_option maxRecDepth 8000 in
set_option maxHeartbeats 2000000 in
theorem q6_any (N : Nat) (s : List UInt8) (x : Value) (w : World) (h : NowOk N s) :
    Calls Tryz.prog 128 #[.agg #[.int .i64 N, .string (bs s), x]] w (AnPost (ansQ N s 6) w) := by
  have g1 := Lib.hid (World.grownBy_alloc w (.cells #[.int .i64 N, .string (bs s), x] 32) none)
  have ca := letters_any (bs s)
  obtain ⟨k, hk, hk9⟩ := lsI_99 h
  rw [bl_bs, hk] at ca
  have ci := itoa2_any k hk9
  show Calls _ _ _ _ (AnPost (bs (decL (lsI s).toNat)) w)
  rw [hk, Int.toNat_natCast]
  clear hk hk9
  generalize bs (decL k) = Y at *
  go_enter Tryz.func128, Tryz.ntmps128
  go_wp2_with (first | (go_at_call 155; (with_reducible refine (ca _).mono ?_); rintro e w2 ⟨rfl, hg⟩) | (go_at_call 54; (with_reducible refine (ci _).mono ?_); rintro e w3 ⟨rfl, rfl⟩))
  go_ret
  exact ⟨rfl, grownBy_trans g1.out hg⟩

set_option maxRecDepth 8000 in
set_option maxHeartbeats 2000000 in
theorem q7_any (N : Nat) (s : List UInt8) (x : Value) (w : World) (h : NowOk N s) :
    Calls Tryz.prog 129 #[.agg #[.int .i64 N, .string (bs s), x]] w (AnPost (ansQ N s 7) w) := by
  have g1 := Lib.hid (World.grownBy_alloc w (.cells #[.int .i64 N, .string (bs s), x] 32) none)
  obtain ⟨k, hk, hk9⟩ := movI_99 h
  have ca := mov_v mov_any N (bs s) (v := (k : Int)) (by rw [bl_bs]; exact hk)
  have ci := itoa2_any k hk9
  show Calls _ _ _ _ (AnPost (bs (decL (movI N s).toNat)) w)
  rw [hk, Int.toNat_natCast]
  clear hk hk9
  generalize bs (decL k) = Y at *
  go_enter Tryz.func129, Tryz.ntmps129
  go_wp2_with (first | (go_at_call 156; (with_reducible refine (ca _).mono ?_); rintro e w2 ⟨rfl, hg⟩) | (go_at_call 54; (with_reducible refine (ci _).mono ?_); rintro e w3 ⟨rfl, rfl⟩))
  all_goals go_ret
  all_goals exact ⟨rfl, grownBy_trans g1.out hg⟩

set_option maxRecDepth 8000 in
set_option maxHeartbeats 2000000 in
theorem q8_any (N : Nat) (s : List UInt8) (x : Value) (w : World) (h : NowOk N s) :
    Calls Tryz.prog 130 #[.agg #[.int .i64 N, .string (bs s), x]] w (AnPost (ansQ N s 8) w) := by
  have g1 := Lib.hid (World.grownBy_alloc w (.cells #[.int .i64 N, .string (bs s), x] 32) none)
  obtain ⟨hb, hl⟩ := saidL_99 h
  have ca := said_v isaid_any N (bs s) (xs := saidL N s) (by rw [bl_bs])
  unfold IntsPost at ca
  show Calls _ _ _ _ (AnPost (rowA (saidL N s)) w)
  generalize saidL N s = L at *
  have cn := fun a cap W h => nums_any L hb (by omega) a cap W h
  have HL := Lib.hid (show L.length ≤ maxLen by unfold maxLen; omega)
  clear hb hl
  generalize rowA L = Y at *
  go_enter Tryz.func130, Tryz.ntmps130
  go_wp2_with (first | (go_at_call 157; (with_reducible refine (ca _).mono ?_); rintro e w2 ⟨a, cap, rfl, ho, hg⟩; have HO := Lib.hid (ho.at HL.out); clear ho) | (go_at_call 153; (with_reducible refine (cn _ _ _ HO.out).mono ?_); rintro e w3 ⟨rfl, hg3⟩))
  all_goals go_ret
  all_goals exact ⟨rfl, grownBy_trans (grownBy_trans g1.out hg) hg3⟩

end Go.Proofs.YtlnffpofbfigaaaGreatDoor

/-
  The map of the questions by their words: the landed code's.
-/
namespace Go.Proofs.YtlnffpofbfigaaaGreatDoor
open Go.RowKit Go.Maps Go.Joins

def wQ (l : List UInt8) : Lit := .string l
theorem wQ_of (l : List UInt8) (h : l.length ≤ maxLen) : keyOf Tryz.prog 9 (.string (bs l)) = some (wQ l) := WideMaps.keyOf_string_mk Tryz.underlying9 (by rw [bs_size]; exact h)
set_option maxRecDepth 100000 in
theorem zeroAsk (w : World) : (zeroValue 123).run Tryz.prog w = .ok .nilFunc w := rfl
def askF : Nat → FuncId
  | 0 => 122
  | 1 => 123
  | 2 => 124
  | 3 => 125
  | 4 => 126
  | 5 => 127
  | 6 => 128
  | 7 => 129
  | _ => 130
def quesD : DataW Value := ((((((((((DataW.map [] : DataW Value).put (wQ [115, 116, 101, 112, 115]) (.held (fnV (askF 0)))).put (wQ [116, 101, 120, 116]) (.held (fnV (askF 1)))).put (wQ [97, 108, 119, 97, 121, 115]) (.held (fnV (askF 2)))).put (wQ [108, 101, 97, 115, 116]) (.held (fnV (askF 3)))).put (wQ [97, 103, 97, 105, 110, 115, 116]) (.held (fnV (askF 4)))).put (wQ [99, 104, 97, 105, 110, 115]) (.held (fnV (askF 5)))).put (wQ [108, 101, 116, 116, 101, 114, 115]) (.held (fnV (askF 6)))).put (wQ [109, 111, 118, 101, 115]) (.held (fnV (askF 7)))).put (wQ [114, 111, 119]) (.held (fnV (askF 8))))
theorem ques_in {l : List UInt8} {q : Nat} (h : askW[q]? = some l) : quesD.atKey (wQ l) (.held .nilFunc) = .held (fnV (askF q)) ∧ Maps.has quesD (wQ l) = true := by
  have hq : q < 9 := (List.getElem?_eq_some_iff.1 h).1
  match q, hq, h with
  | 0, _, h => cases h; exact ⟨rfl, rfl⟩
  | 1, _, h => cases h; exact ⟨rfl, rfl⟩
  | 2, _, h => cases h; exact ⟨rfl, rfl⟩
  | 3, _, h => cases h; exact ⟨rfl, rfl⟩
  | 4, _, h => cases h; exact ⟨rfl, rfl⟩
  | 5, _, h => cases h; exact ⟨rfl, rfl⟩
  | 6, _, h => cases h; exact ⟨rfl, rfl⟩
  | 7, _, h => cases h; exact ⟨rfl, rfl⟩
  | 8, _, h => cases h; exact ⟨rfl, rfl⟩
theorem wQ_ne {l m : List UInt8} (h : l ≠ m) : wQ l ≠ wQ m := fun e => h (by unfold wQ at e; injection e)
theorem ques_out {l : List UInt8} (h : l ∉ askW) : quesD.atKey (wQ l) (.held .nilFunc) = .held .nilFunc ∧ Maps.has quesD (wQ l) = false := by
  have f : ∀ m ∈ askW, wQ l ≠ wQ m := fun m hm => wQ_ne fun e => h (e ▸ hm)
  unfold quesD
  refine ⟨?_, ?_⟩
  · rw [atKey_put_other (f [114, 111, 119] (by decide)), atKey_put_other (f [109, 111, 118, 101, 115] (by decide)), atKey_put_other (f [108, 101, 116, 116, 101, 114, 115] (by decide)), atKey_put_other (f [99, 104, 97, 105, 110, 115] (by decide)), atKey_put_other (f [97, 103, 97, 105, 110, 115, 116] (by decide)), atKey_put_other (f [108, 101, 97, 115, 116] (by decide)), atKey_put_other (f [97, 108, 119, 97, 121, 115] (by decide)), atKey_put_other (f [116, 101, 120, 116] (by decide)), atKey_put_other (f [115, 116, 101, 112, 115] (by decide))]
    rfl
  · rw [has_put_other (f [114, 111, 119] (by decide)), has_put_other (f [109, 111, 118, 101, 115] (by decide)), has_put_other (f [108, 101, 116, 116, 101, 114, 115] (by decide)), has_put_other (f [99, 104, 97, 105, 110, 115] (by decide)), has_put_other (f [97, 103, 97, 105, 110, 115, 116] (by decide)), has_put_other (f [108, 101, 97, 115, 116] (by decide)), has_put_other (f [97, 108, 119, 97, 121, 115] (by decide)), has_put_other (f [116, 101, 120, 116] (by decide)), has_put_other (f [115, 116, 101, 112, 115] (by decide))]
    rfl
def QuesPost (w : World) (e : Ending) (w' : World) : Prop :=
  e = .returned (.map (some w.heap.size)) ∧ w'.ownsMap Tryz.prog 9 anyElem w.heap.size 9 quesD ∧ w.grownBy w' none

set_option maxRecDepth 8000 in
set_option maxHeartbeats 2000000 in
theorem ques_any (w : World) : Calls Tryz.prog 98 #[] w (QuesPost w) := by
  have hmm : ∀ w, (Instr.makeMap 125 none).run Tryz.prog w = .ok (.map (some w.heap.size)) (w.alloc (.map #[] 0)) := fun _ => rfl
  have g0 := World.grownBy_alloc w (.map #[] 0) none
  have o0 : (w.alloc (.map #[] 0)).ownsMap Tryz.prog 9 anyElem w.heap.size 0 (DataW.map []) := World.ownsMap_made _ _ _ _
  go_enter Tryz.func98, Tryz.ntmps98
  go_wp2_with (first
    | (refine insert_own _ rfl _ _ _ 125 rfl 9 123 keyedS Tryz.underlying125 anyElem w.heap.size 0 _ rfl o0 (by unfold maxLen; omega) (.string ⟨#[115, 116, 101, 112, 115]⟩) (fnV 122) (wQ [115, 116, 101, 112, 115]) rfl rfl (wQ_of [115, 116, 101, 112, 115] (by decide)) (.held (fnV (askF 0))) [] rfl ?_; intro w1 o1 h1; have g1 := grownBy_own g0 h1)
    | (refine insert_own _ rfl _ _ _ 125 rfl 9 123 keyedS Tryz.underlying125 anyElem w.heap.size 1 _ rfl o1 (by unfold maxLen; omega) (.string ⟨#[116, 101, 120, 116]⟩) (fnV 123) (wQ [116, 101, 120, 116]) rfl rfl (wQ_of [116, 101, 120, 116] (by decide)) (.held (fnV (askF 1))) [] rfl ?_; intro w2 o2 h2; have g2 := grownBy_own g1 h2)
    | (refine insert_own _ rfl _ _ _ 125 rfl 9 123 keyedS Tryz.underlying125 anyElem w.heap.size 2 _ rfl o2 (by unfold maxLen; omega) (.string ⟨#[97, 108, 119, 97, 121, 115]⟩) (fnV 124) (wQ [97, 108, 119, 97, 121, 115]) rfl rfl (wQ_of [97, 108, 119, 97, 121, 115] (by decide)) (.held (fnV (askF 2))) [] rfl ?_; intro w3 o3 h3; have g3 := grownBy_own g2 h3)
    | (refine insert_own _ rfl _ _ _ 125 rfl 9 123 keyedS Tryz.underlying125 anyElem w.heap.size 3 _ rfl o3 (by unfold maxLen; omega) (.string ⟨#[108, 101, 97, 115, 116]⟩) (fnV 125) (wQ [108, 101, 97, 115, 116]) rfl rfl (wQ_of [108, 101, 97, 115, 116] (by decide)) (.held (fnV (askF 3))) [] rfl ?_; intro w4 o4 h4; have g4 := grownBy_own g3 h4)
    | (refine insert_own _ rfl _ _ _ 125 rfl 9 123 keyedS Tryz.underlying125 anyElem w.heap.size 4 _ rfl o4 (by unfold maxLen; omega) (.string ⟨#[97, 103, 97, 105, 110, 115, 116]⟩) (fnV 126) (wQ [97, 103, 97, 105, 110, 115, 116]) rfl rfl (wQ_of [97, 103, 97, 105, 110, 115, 116] (by decide)) (.held (fnV (askF 4))) [] rfl ?_; intro w5 o5 h5; have g5 := grownBy_own g4 h5)
    | (refine insert_own _ rfl _ _ _ 125 rfl 9 123 keyedS Tryz.underlying125 anyElem w.heap.size 5 _ rfl o5 (by unfold maxLen; omega) (.string ⟨#[99, 104, 97, 105, 110, 115]⟩) (fnV 127) (wQ [99, 104, 97, 105, 110, 115]) rfl rfl (wQ_of [99, 104, 97, 105, 110, 115] (by decide)) (.held (fnV (askF 5))) [] rfl ?_; intro w6 o6 h6; have g6 := grownBy_own g5 h6)
    | (refine insert_own _ rfl _ _ _ 125 rfl 9 123 keyedS Tryz.underlying125 anyElem w.heap.size 6 _ rfl o6 (by unfold maxLen; omega) (.string ⟨#[108, 101, 116, 116, 101, 114, 115]⟩) (fnV 128) (wQ [108, 101, 116, 116, 101, 114, 115]) rfl rfl (wQ_of [108, 101, 116, 116, 101, 114, 115] (by decide)) (.held (fnV (askF 6))) [] rfl ?_; intro w7 o7 h7; have g7 := grownBy_own g6 h7)
    | (refine insert_own _ rfl _ _ _ 125 rfl 9 123 keyedS Tryz.underlying125 anyElem w.heap.size 7 _ rfl o7 (by unfold maxLen; omega) (.string ⟨#[109, 111, 118, 101, 115]⟩) (fnV 129) (wQ [109, 111, 118, 101, 115]) rfl rfl (wQ_of [109, 111, 118, 101, 115] (by decide)) (.held (fnV (askF 7))) [] rfl ?_; intro w8 o8 h8; have g8 := grownBy_own g7 h8)
    | (refine insert_own _ rfl _ _ _ 125 rfl 9 123 keyedS Tryz.underlying125 anyElem w.heap.size 8 _ rfl o8 (by unfold maxLen; omega) (.string ⟨#[114, 111, 119]⟩) (fnV 130) (wQ [114, 111, 119]) rfl rfl (wQ_of [114, 111, 119] (by decide)) (.held (fnV (askF 8))) [] rfl ?_; intro w9 o9 h9; have g9 := grownBy_own g8 h9))
  go_ret
  exact ⟨rfl, o9, g9⟩

end Go.Proofs.YtlnffpofbfigaaaGreatDoor
