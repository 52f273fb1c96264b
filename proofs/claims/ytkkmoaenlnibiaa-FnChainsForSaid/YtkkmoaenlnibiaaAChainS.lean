/-
  The model's ChainsFor. No condition.
-/
import Derived.Test.YtkkmoaenlnibiaaAChain
import Derived.Test.YtkkmoaenlnibiaaASpec
namespace Go.Proofs.Ytkkmoaenlnibiaa
open Go.RowKit

theorem chTo_none {l : List UInt8} (h : fOf l = none) (j : Nat) : chTo l j = [] := by
  induction j with
  | zero => rfl
  | succ j ih => rw [chTo_miss (alwB_n h), ih]

theorem schains_no (s : ByteArray) (w : World) (h : fOf (bl s) = none) :
    Calls Try.prog 38 #[.string s] w (IntsPost (chI (bl s)) w) := by
  have cf := fun w => sform_any s w
  rw [isF_f h] at cf
  have hp := Lib.hid (chI_n h)
  clear h
  go_enter Try.func38, Try.ntmps38
  go_wp2_with fail
  go_loopw [3, 4] (fun v i wr => v = .slice (some ⟨w.heap.size, 0, none⟩) 0 0 ∧ i = .int .i64 1 ∧ wr = w.alloc (.cells #[] 3)) (fun _ _ _ => 0)
  case atStart => exact ⟨rfl, rfl, rfl⟩
  case round =>
    obtain ⟨rfl, rfl, rfl⟩ := hrel
    go_wp2_with fail
    refine (cf _).mono ?_
    rintro e w2 ⟨rfl, rfl⟩
    clear cf
    go_wp2_with fail
    go_ret
    rw [hp.out]
    exact ⟨_, 0, rfl, OwnI.made w, World.grownBy_alloc _ _ none⟩

set_option maxRecDepth 100000 in
set_option maxHeartbeats 1600000 in
theorem schains_yes (s : ByteArray) (w : World) {t : Tr} (h : fOf (bl s) = some t) :
    Calls Try.prog 38 #[.string s] w (IntsPost (chI (bl s)) w) := by
  obtain ⟨i0, hi, hz0, hz1, hz2⟩ := info_parts infoInt
  have cf := fun w => sform_any s w
  rw [isF_t h] at cf
  have ca := fun n w => salways_any n s w
  clear h
  rw [← chTo_6]
  go_enter Try.func38, Try.ntmps38
  go_wp2_with fail
  go_loopw [3, 4] (fun v i wr => ChRel (bl s) w v i wr) (fun _ i _ => (7 - intOf i).toNat)
  case atStart => exact ⟨0, by omega, rfl, _, 0, rfl, OwnI.made w, World.grownBy_alloc _ _ none⟩
  case round =>
    obtain ⟨j, hj, rfl, a, cap, rfl, hown, hgr⟩ := hrel
    have hlen := chTo_len (bl s) j
    by_cases hlt : j < 6
    · have dj : decide ((j : Int) + 1 ≤ 6) = true := decide_eq_true (by omega)
      cases hb : alwB ((j + 1 : Nat) : Int) (bl s)
      · have e := Lib.hid (chTo_miss (l := bl s) (j := j) hb)
        have c2 : ∀ w : World, Calls Try.prog 23 #[.int .i64 ((j : Int) + 1), .string s] w fun e w' => e = .returned (.bool false) ∧ w.grownBy w' none := fun w => by have := ca ((j + 1 : Nat) : Int) w; rw [hb] at this; exact this
        clear hb ca
        go_wp2_with fail
        refine (cf _).mono ?_
        rintro e w2 ⟨rfl, rfl⟩
        clear cf
        go_wp2_with fail
        refine (c2 _).mono ?_
        rintro e w3 ⟨rfl, hg2⟩
        replace hown := hown.kept hg2
        replace hgr := grownBy_trans hgr hg2
        clear c2
        go_wp2_with fail
        go_roundw
        case rel => exact ⟨j + 1, by omega, by go_num, a, cap, by rw [e.out], by rw [e.out]; exact hown, hgr⟩
        case measure => simp [intOf]; omega
      · have e := Lib.hid (chTo_hit (l := bl s) (j := j) hb)
        have c2 : ∀ w : World, Calls Try.prog 23 #[.int .i64 ((j : Int) + 1), .string s] w fun e w' => e = .returned (.bool true) ∧ w.grownBy w' none := fun w => by have := ca ((j + 1 : Nat) : Int) w; rw [hb] at this; exact this
        clear hb ca
        go_wp2_with fail
        refine (cf _).mono ?_
        rintro e w2 ⟨rfl, rfl⟩
        clear cf
        go_wp2_with fail
        refine (c2 _).mono ?_
        rintro e w3 ⟨rfl, hg2⟩
        replace hown := hown.kept hg2
        replace hgr := grownBy_trans hgr hg2
        clear c2
        go_wp2_with (at_builtin; refine wpList_append_own _ rfl _ _ 39 rfl w.heap.size 3 i0 (.int .i64 0) 1 8 Try.underlying39 hi hz0 hz1 hz2 rfl (by decide) _ _ _ rfl (World.ownsRow.alloc hown _) ⟨w3.heap.size, 0, none⟩ 1 1 [.int .i64 ((j : Int) + 1)] rfl rfl ?c1 ?c2 ?c3 ?c4 ?c5 ?_)
        case c1 =>
          intro j u hj
          match j, hj with
          | 0, hj => simp at hj; subst hj; simp [Addr.add]
        case c2 => intro u hu; simp at hu; subst hu; rfl
        case c3 => unfold maxLen; omega
        case c4 => omega
        case c5 => have := hgr.size; simp; omega
        intro v' w4 hown' hgrow _
        have R := row_more hown hgr hown' (grow_box hgrow)
        rw [show ((j : Int) + 1) = ((j + 1 : Nat) : Int) from rfl, ← e.out] at R
        clear hown hown' hgrow
        go_wp2
        go_roundw
        case rel => exact ⟨j + 1, by omega, by go_num, R⟩
        case measure => simp [intOf]; omega
    · obtain rfl : j = 6 := by omega
      clear cf ca
      go_wp2
      go_ret
      exact ⟨a, cap, rfl, hown, hgr⟩

theorem schains_any (s : ByteArray) (w : World) :
    Calls Try.prog 38 #[.string s] w (IntsPost (chI (bl s)) w) := by
  cases h : fOf (bl s) with
  | none => exact schains_no s w h
  | some t => exact schains_yes s w h

end Go.Proofs.Ytkkmoaenlnibiaa
