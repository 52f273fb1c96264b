/-
  The walk of the law FnMadeBy. The table of math/bits lies as it is laid.
-/
import Derived.Test.YtahlmdlnemmhpaaDoorZDraw2
import Derived.Test.YtahlmdlnemmhpaaDoorZSpecW
import Derived.Test.YtahlmdlnemmhpaaDoorLow
import Derived.Outline
namespace Go.Proofs.YtahlmdlnemmhpaaDoor
open Go.RowKit

theorem made_cases (n s : Int) : madeI n s = -1 ∨ ∃ N S X : Nat, n = (N : Int) ∧ s = (S : Int) ∧ 1 ≤ N ∧ N ≤ 6 ∧ S < 128 ∧ X < 128 ∧ madeI n s = (X : Int) ∧ closI n (X : Int) = true ∧ X &&& S = S ∧ ∀ T, T ∈ setsL N → T &&& S = S → T &&& X = X := by
  cases ho : okS n s
  · left; unfold madeI; rw [ho]; rfl
  · right
    obtain ⟨N, S, rfl, rfl, h1, h6, hS⟩ := okS_of ho
    have p7 := pow_le7 h6
    have k := tab_of made_ok ⟨h1, h6⟩ hS
    simp only [Bool.and_eq_true, decide_eq_true_eq, beq_iff_eq, List.all_eq_true, Bool.or_eq_true, Bool.not_eq_true', beq_eq_false_iff_ne] at k
    obtain ⟨⟨⟨k1, k2⟩, k3⟩, k4⟩ := k
    refine ⟨N, S, madeN N S, rfl, rfl, h1, h6, by omega, by omega, ?_, ?_, k2, fun T hT he => ?_⟩
    · unfold madeI; rw [ho]; rfl
    · rw [closI_nat ⟨h1, h6⟩ k3, ← closN_nat ⟨h1, h6⟩ k3]; exact k1
    · rcases k4 T hT with h | h
      · exact absurd he h
      · exact h

/-- What one value makes. -/
theorem one_tab : ([1, 2, 3, 4, 5, 6].all fun n => (List.range (n + 1)).all fun v => decide (0 ≤ lowW (n : Int) (v : Int)) && withI (n : Int) (lowW (n : Int) (v : Int)) == madeI (n : Int) (wrap64 (2 ^ v)) && vokB (n : Int) (v : Int)) = true := by decide +kernel
theorem one_makes {N v : Nat} (hN : 1 ≤ N ∧ N ≤ 6) (hv : v ≤ N) : withI (N : Int) (lowW (N : Int) (v : Int)) = madeI (N : Int) (wrap64 (2 ^ v)) ∧ vokB (N : Int) (v : Int) = true := by
  have h := one_tab
  rw [List.all_eq_true] at h
  have h1 := h N (by simp; omega)
  rw [List.all_eq_true] at h1
  have h2 := h1 v (List.mem_range.2 (by omega))
  simp only [Bool.and_eq_true, beq_iff_eq] at h2
  exact ⟨h2.1.2, h2.2⟩

theorem sets_elem {N : Nat} (hN : 1 ≤ N ∧ N ≤ 6) {k : Nat} (hk : k < (setsI (N : Int)).length) : ∃ T : Nat, (setsI (N : Int)).getD k 0 = (T : Int) ∧ T ∈ setsL N ∧ T < 128 := by
  have e : setsI (N : Int) = (setsL N).map Int.ofNat := by unfold setsI; rw [inB_t (by omega), Int.toNat_natCast]; rfl
  rw [e] at hk ⊢
  rw [List.length_map] at hk
  have hm : (setsL N)[k] ∈ setsL N := List.getElem_mem hk
  have h : [1, 2, 3, 4, 5, 6].all (fun n => (setsL n).all fun x => decide (x < 128)) = true := by decide +kernel
  rw [List.all_eq_true] at h
  have h1 := h N (by simp; omega)
  rw [List.all_eq_true] at h1
  refine ⟨(setsL N)[k], ?_, hm, of_decide_eq_true (h1 _ hm)⟩
  rw [List.getD_eq_getElem?_getD, List.getElem?_map, List.getElem?_eq_getElem hk]
  rfl
theorem sets_len128 {N : Nat} (hN : 1 ≤ N ∧ N ≤ 6) : (setsI (N : Int)).length ≤ 128 := by
  have e : setsI (N : Int) = (setsL N).map Int.ofNat := by unfold setsI; rw [inB_t (by omega), Int.toNat_natCast]; rfl
  have h : [1, 2, 3, 4, 5, 6].all (fun n => decide ((setsL n).length ≤ 128)) = true := by decide +kernel
  rw [List.all_eq_true] at h
  have := of_decide_eq_true (h N (by simp; omega))
  rw [e, List.length_map]
  exact this

set_option maxRecDepth 100000 in
set_option maxHeartbeats 2000000 in
theorem FnMadeBy_walk (a0 : Option Addr) (len0 cap0 : Nat) (z0 : List Int) (w : World) (w0 : IsRow .u8 w a0 len0 cap0 z0) (hT : TzAt w) :
    Calls Tryd.prog 4 #[.slice a0 len0 cap0] w fun e w' => e = .returned (.bool true) ∧ Below w.heap.size w w' := by
  by_cases hl : (1048576 : Int) < (len0 : Int)
  · clear w0
    go_enter Tryd.func4, Tryd.ntmps4
    go_wp2_with fail
    go_ret
    exact ⟨rfl, Below.refl _ _⟩
  · go_enter Tryd.func4, Tryd.ntmps4
    go_wp2_with fail
    refine (DrawMadeBy_any _ _ _ _ _ w0).mono ?_
    rintro e w1 ⟨n, s, rfl, hn1, hn2, hs1, hs2, g1⟩
    clear w0
    have ci := made_any n s w1 (hT.grown g1)
    have cs := fun w => smade_any n s w
    rcases made_cases n s with h | ⟨N, S, X, rfl, rfl, k1, k2, hS, hX, h, hc, hxs, hall⟩
    · rw [h] at ci cs
      have G1 := Lib.hid g1
      clear h g1 hT
      go_wp2_with fail
      refine ci.mono ?_
      rintro e w2 ⟨rfl, g2⟩
      go_wp2_with fail
      refine (cs _).mono ?_
      rintro e w3 ⟨rfl, rfl⟩
      go_wp2_with fail
      refine (alive_any _).mono ?_
      rintro e w4 ⟨rfl, rfl⟩
      go_wp2_with fail
      go_ret
      exact ⟨rfl, below_of (grownBy_trans G1.out g2)⟩
    · rw [h] at ci cs
      have hN : 1 ≤ N ∧ N ≤ 6 := ⟨k1, k2⟩
      have c1 : ∀ w : World, TzAt w → Calls Tryd.prog 13 #[.int .i64 N, .int .i64 X] w fun e w' => e = .returned (.bool true) ∧ w.grownBy w' none := fun w hT => by
        have := closed_any (N : Int) (X : Int) w hT
        rw [hc] at this
        exact this
      have cL := fun w hT => closedSets_any (N : Int) w hT
      have hlen := sets_len128 hN
      have hel := fun (k : Nat) (hk : k < (setsI (N : Int)).length) => sets_elem hN hk
      have cV : ∀ (v : Nat) (w : World), v ≤ N → Calls Tryd.prog 25 #[.int .i64 N, .int .i64 v] w fun e w' => e = .returned (.tuple #[.int .i64 (lowW N v), .int .i64 (lowP N v), .bool true]) ∧ w.grownBy w' none := fun v w hv => by
        have := low_any (N : Int) (v : Int) w
        unfold LowPost at this
        rw [(one_makes hN hv).2] at this
        exact this
      have cM : ∀ (v : Nat) (w : World), TzAt w → Calls Tryd.prog 22 #[.int .i64 N, .int .i64 (wrap64 (2 ^ v))] w fun e w' => e = .returned (.int .i64 (madeI N (wrap64 (2 ^ v)))) ∧ w.grownBy w' none := fun v w hT => made_any _ _ w hT
      have cW : ∀ (v : Nat) (w : World), v ≤ N → Calls Tryd.prog 26 #[.int .i64 N, .int .i64 (lowW N v)] w fun e w' => e = .returned (.int .i64 (madeI N (wrap64 (2 ^ v)))) ∧ w.grownBy w' none := fun v w hv => by
        have := within_chain (N : Int) (lowW (N : Int) (v : Int)) w
        rw [(one_makes hN hv).1] at this
        exact this
      have exs : bits .and .i64 (X : Int) (S : Int) = (S : Int) := by
        have := and64 (a := X) (b := S) (by omega) (by omega)
        rw [hxs] at this
        exact this
      generalize setsI (N : Int) = zs at *
      have hlen2 : zs.length ≤ maxLen := by unfold maxLen; omega
      have Hlen2 := Lib.hid hlen2
      have Hel := Lib.hid hel
      have Hall := Lib.hid hall
      have G1 := Lib.hid g1
      clear hlen2 hel hall hc hxs g1 h hN
      go_wp2_with fail
      refine ci.mono ?_
      rintro e w2 ⟨rfl, g2⟩
      go_wp2_with fail
      refine (cs _).mono ?_
      rintro e w3 ⟨rfl, rfl⟩
      have G2 := Lib.hid (grownBy_trans G1.out g2)
      clear g2 ci cs
      go_wp2_with fail
      refine (cL _ (hT.grown G2.out)).mono ?_
      rintro e w4 ⟨a, ca, rfl, ho4, g4⟩
      have hA := grownBy_trans G2.out g4
      have H4 := Lib.hid (ho4.at Hlen2.out)
      clear g4 ho4
      go_wp2_with fail
      go_loopw [7] (fun i wr => ∃ k : Nat, k ≤ zs.length ∧ i = .int .i64 k ∧ w4 = wr) (fun i _ => zs.length - (intOf i).toNat)
      case atStart => exact ⟨0, by omega, rfl, rfl⟩
      case round =>
        obtain ⟨k, hk, rfl, rfl⟩ := hrel
        by_cases hlt : k < zs.length
        · obtain ⟨T, q1, q2, q3⟩ := Hel.out k hlt
          have Hz := Lib.hid H4.out
          rcases H4.out.2 with h0 | ⟨bx, ox, rfl, hbx, hcx⟩
          · rw [h0] at hlt; simp at hlt
          have hc := hcx k hlt
          rw [q1] at hc
          have i0 : (0 : Int) ≤ (k : Int) := by omega
          have i1 : (k : Int) < (zs.length : Int) := by omega
          have e1 := and64 (a := T) (b := S) (by omega) (by omega)
          by_cases hm : T &&& S = S
          · have e2 := and64 (a := T) (b := X) (by omega) (by omega)
            rw [Hall.out T q2 hm] at e2
            rw [hm] at e1
            clear hcx hbx q1 q2 hm cL c1 cV cM cW
            go_wp2_with fail
            go_roundw
            case rel => exact ⟨k + 1, by omega, by go_num, trivial⟩
            case measure => simp [intOf]; omega
          · have e3 : (((T &&& S : Nat) : Int) == (S : Int)) = false := by rw [beq_eq_false_iff_ne]; omega
            generalize T &&& S = p at *
            clear hcx hbx q1 q2 hm cL c1 cV cM cW
            go_wp2_with fail
            go_roundw
            case rel => exact ⟨k + 1, by omega, by go_num, trivial⟩
            case measure => simp [intOf]; omega
        · obtain rfl : k = zs.length := by omega
          clear cL
          go_wp2_with fail
          go_loopw [8] (fun i wr => ∃ v : Nat, v ≤ N + 1 ∧ i = .int .i64 v ∧ w.grownBy wr none) (fun i _ => N + 1 - (intOf i).toNat)
          case atStart => exact ⟨0, by omega, rfl, hA⟩
          case round =>
            obtain ⟨v, hv, rfl, hgr⟩ := hrel
            by_cases hlt2 : v < N + 1
            · have cv := cV v
              have cm := cM v
              have cw := cW v
              generalize madeI (N : Int) (wrap64 (2 ^ v)) = R at *
              clear cV cM cW c1
              go_wp2_with fail
              refine (cv _ (by omega)).mono ?_
              rintro e w5 ⟨rfl, g5⟩
              go_wp2_with fail
              refine (cm _ (hT.grown (grownBy_trans hgr g5))).mono ?_
              rintro e w6 ⟨rfl, g6⟩
              go_wp2_with fail
              refine (cw _ (by omega)).mono ?_
              rintro e w7 ⟨rfl, g7⟩
              go_wp2_with fail
              go_roundw
              case rel => exact ⟨v + 1, by omega, by go_num, grownBy_trans (grownBy_trans (grownBy_trans hgr g5) g6) g7⟩
              case measure => simp [intOf]; omega
            · obtain rfl : v = N + 1 := by omega
              have cc := c1 _ (hT.grown hgr)
              clear cV cM cW c1
              go_wp2_with fail
              refine cc.mono ?_
              rintro e w5 ⟨rfl, g5⟩
              go_wp2_with fail
              go_ret
              exact ⟨by simp, below_of (grownBy_trans hgr g5)⟩

end Go.Proofs.YtahlmdlnemmhpaaDoor
