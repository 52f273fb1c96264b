/-
  impl.ChainsFor: the numbers of steps of the chains in which a formula always holds. No condition.
-/
import Derived.Test.YtkkmoaenlnibiaaAAlw
import Derived.Test.YtkkmoaenlnibiaaRow
namespace Go.Proofs.Ytkkmoaenlnibiaa
open Go.RowKit

def chTo (l : List UInt8) : Nat → List Int
  | 0 => []
  | j + 1 => if alwB ((j + 1 : Nat) : Int) l = true then chTo l j ++ [((j + 1 : Nat) : Int)] else chTo l j
theorem chTo_hit {l : List UInt8} {j : Nat} (h : alwB ((j + 1 : Nat) : Int) l = true) : chTo l (j + 1) = chTo l j ++ [((j + 1 : Nat) : Int)] := if_pos h
theorem chTo_miss {l : List UInt8} {j : Nat} (h : alwB ((j + 1 : Nat) : Int) l = false) : chTo l (j + 1) = chTo l j := if_neg (by rw [h]; decide)
theorem chTo_len (l : List UInt8) : ∀ j, (chTo l j).length ≤ j := by
  intro j
  induction j with
  | zero => exact Nat.le_refl _
  | succ j ih =>
    cases h : alwB ((j + 1 : Nat) : Int) l
    · rw [chTo_miss h]; omega
    · rw [chTo_hit h, List.length_append]; simp; omega
theorem chTo_eq (l : List UInt8) : ∀ j, chTo l j = ((List.range j).map fun i => ((i + 1 : Nat) : Int)).filter fun n => alwB n l := by
  intro j
  induction j with
  | zero => rfl
  | succ j ih =>
    rw [List.range_succ, List.map_append, List.filter_append, ← ih]
    cases h : alwB ((j + 1 : Nat) : Int) l
    · rw [chTo_miss h]
      show _ = _ ++ List.filter _ [((j + 1 : Nat) : Int)]
      rw [List.filter_cons_of_neg (by rw [h]; decide)]
      simp
    · rw [chTo_hit h]
      show _ = _ ++ List.filter _ [((j + 1 : Nat) : Int)]
      rw [List.filter_cons_of_pos (p := fun n => alwB n l) h]
      rfl
theorem chTo_6 (l : List UInt8) : chTo l 6 = chI l := chTo_eq l 6
theorem chI_n {l : List UInt8} (h : fOf l = none) : chI l = [] := by
  unfold chI
  rw [List.filter_eq_nil_iff]
  intro a _
  rw [alwB_n h]
  decide

def ChRel (l : List UInt8) (w : World) (v i : Value) (wr : World) : Prop := ∃ j : Nat, j ≤ 6 ∧ i = .int .i64 ((j : Int) + 1) ∧ RowRel (chTo l j) w.heap.size w v wr

theorem chains_no (s : ByteArray) (w : World) (h : fOf (bl s) = none) :
    Calls Try.prog 35 #[.string s] w (IntsPost (chI (bl s)) w) := by
  have ct := tree_no s w h
  have hp := Lib.hid (chI_n h)
  clear h
  go_enter Try.func35, Try.ntmps35
  go_wp2_with fail
  refine ct.mono ?_
  rintro e w1 ⟨v, hv, rfl, g1⟩
  clear ct
  go_wp2_with fail
  go_ret
  rw [hp.out]
  exact ⟨none, 0, rfl, OwnI.nil _ _, g1⟩

set_option maxRecDepth 100000 in
set_option maxHeartbeats 1600000 in
theorem chains_yes (s : ByteArray) (w : World) {t : Tr} (h : fOf (bl s) = some t) :
    Calls Try.prog 35 #[.string s] w (IntsPost (chI (bl s)) w) := by
  obtain ⟨i0, hi, hz0, hz1, hz2⟩ := info_parts infoInt
  have ct := tree_yes s w h
  have H := Lib.hid h
  clear h
  rw [← chTo_6]
  go_enter Try.func35, Try.ntmps35
  go_wp2_with fail
  refine ct.mono ?_
  rintro e w1 ⟨rfl, g1⟩
  clear ct
  go_wp2_with fail
  go_loopw [5, 6] (fun v i wr => ChRel (bl s) w v i wr) (fun _ i _ => (7 - intOf i).toNat)
  case atStart => exact ⟨0, by omega, rfl, none, 0, rfl, OwnI.nil _ _, g1⟩
  case round =>
    obtain ⟨j, hj, rfl, a, cap, rfl, hown, hgr⟩ := hrel
    have hlen := chTo_len (bl s) j
    by_cases hlt : j < 6
    · have hN : 1 ≤ j + 1 ∧ j + 1 ≤ 6 := by omega
      have hb : alwB ((j + 1 : Nat) : Int) (bl s) = (agN (j + 1) t).isNone := by rw [alwB_t H.out (inB_t (by omega)), agN_alw]
      cases hag : agN (j + 1) t with
      | none =>
        rw [hag] at hb
        have e := Lib.hid (chTo_hit (l := bl s) (j := j) hb)
        have c2 : ∀ w : World, Calls Try.prog 55 #[.int .i64 ((j : Int) + 1), .iface (nodeT t) (nodeP t)] w fun e w' => e = .returned (.tuple #[.agg #[.int .i64 0, .int .i64 0, .int .i64 0, .int .i64 0], .bool false]) ∧ w.grownBy w' none := against_no hN hag
        clear hb hag
        go_wp2_with fail
        refine (c2 _).mono ?_
        rintro e w2 ⟨rfl, hg2⟩
        replace hown := hown.kept hg2
        replace hgr := grownBy_trans hgr hg2
        clear c2
        go_wp2_with (at_builtin; refine wpList_append_own _ rfl _ _ 39 rfl w.heap.size 3 i0 (.int .i64 0) 1 8 Try.underlying39 hi hz0 hz1 hz2 rfl (by decide) _ _ _ rfl (World.ownsRow.alloc (World.ownsRow.alloc hown _) _) ⟨w2.heap.size + 1, 0, none⟩ 1 1 [.int .i64 ((j : Int) + 1)] rfl rfl ?c1 ?c2 ?c3 ?c4 ?c5 ?_)
        case c1 =>
          intro j u hj
          match j, hj with
          | 0, hj => simp at hj; subst hj; simp [Addr.add]
        case c2 => intro u hu; simp at hu; subst hu; rfl
        case c3 => unfold maxLen; omega
        case c4 => omega
        case c5 => have := hgr.size; simp; omega
        intro v' w3 hown' hgrow _
        have R := row_more hown hgr hown' (grow_box (grow_box hgrow))
        rw [show ((j : Int) + 1) = ((j + 1 : Nat) : Int) from rfl, ← e.out] at R
        clear hown hown' hgrow
        go_wp2
        go_roundw
        case rel => exact ⟨j + 1, by omega, by go_num, R⟩
        case measure => simp [intOf]; omega
      | some k =>
        rw [hag] at hb
        have e := Lib.hid (chTo_miss (l := bl s) (j := j) hb)
        have c2 : ∀ w : World, Calls Try.prog 55 #[.int .i64 ((j : Int) + 1), .iface (nodeT t) (nodeP t)] w fun e w' => e = .returned (.tuple #[.agg #[.int .i64 ((j : Int) + 1), .int .i64 (tA (j + 1) k), .int .i64 (tB (j + 1) k), .int .i64 (tC (j + 1) k)], .bool true]) ∧ w.grownBy w' none := against_yes hN hag
        clear hb hag
        go_wp2_with fail
        refine (c2 _).mono ?_
        rintro e w2 ⟨rfl, hg2⟩
        replace hown := hown.kept (grownBy_trans hg2 (World.grownBy_alloc _ (.cells #[.int .i64 ((j : Int) + 1), .int .i64 (tA (j + 1) k), .int .i64 (tB (j + 1) k), .int .i64 (tC (j + 1) k)] 60) none))
        replace hgr := grownBy_trans hgr (grownBy_trans hg2 (World.grownBy_alloc _ (.cells #[.int .i64 ((j : Int) + 1), .int .i64 (tA (j + 1) k), .int .i64 (tB (j + 1) k), .int .i64 (tC (j + 1) k)] 60) none))
        clear c2
        go_wp2_with fail
        go_roundw
        case rel => exact ⟨j + 1, by omega, by go_num, a, cap, by rw [e.out], by rw [e.out]; exact hown, hgr⟩
        case measure => simp [intOf]; omega
    · obtain rfl : j = 6 := by omega
      go_wp2
      go_ret
      exact ⟨a, cap, rfl, hown, hgr⟩

theorem chains_any (s : ByteArray) (w : World) :
    Calls Try.prog 35 #[.string s] w (IntsPost (chI (bl s)) w) := by
  cases h : fOf (bl s) with
  | none => exact chains_no s w h
  | some t => exact chains_yes s w h

end Go.Proofs.Ytkkmoaenlnibiaa
