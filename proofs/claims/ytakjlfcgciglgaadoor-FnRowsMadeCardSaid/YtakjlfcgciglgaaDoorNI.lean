/-
  impl's SayableOk and CountSayable. The table of math/bits lies as it is laid.
-/
import Derived.Test.YtakjlfcgciglgaaDoorMC
import Derived.Test.YtakjlfcgciglgaaDoorRI
import Derived.Test.YtakjlfcgciglgaaDoorZOk2
namespace Go.Proofs.YtakjlfcgciglgaaDoor
open Go.RowKit

theorem sub_made : ([1, 2, 3, 4, 5, 6].all fun n => (List.range (n + 1)).all fun v => decide (madeN n (2 ^ v) < 128) && onesOk (madeN n (2 ^ v)) (n / Nat.gcd v n + 1) && (List.range (n + 1)).all fun x => subN (2 ^ x) (madeN n (2 ^ v)) == (x % Nat.gcd v n == 0)) = true := by decide +kernel

theorem sub_made_at {n v : Nat} (hn : 1 ≤ n ∧ n ≤ 6) (hv : v ≤ n) : madeN n (2 ^ v) < 128 ∧ onesOk (madeN n (2 ^ v)) (n / Nat.gcd v n + 1) = true ∧ ∀ x, x ≤ n → subN (2 ^ x) (madeN n (2 ^ v)) = (x % Nat.gcd v n == 0) := by
  have h := sub_made
  rw [List.all_eq_true] at h
  have h1 := h n (by simp; omega)
  rw [List.all_eq_true] at h1
  have h2 := h1 v (List.mem_range.2 (by omega))
  simp only [Bool.and_eq_true, decide_eq_true_eq] at h2
  obtain ⟨⟨h3, h4⟩, h5⟩ := h2
  rw [List.all_eq_true] at h5
  exact ⟨h3, h4, fun x hx => eq_of_beq (h5 x (List.mem_range.2 (by omega)))⟩

theorem pow_lt7 {x : Nat} (h : x ≤ 6) : 2 ^ x < 128 := by
  have : 2 ^ x ≤ 2 ^ 6 := Nat.pow_le_pow_right (by omega) h
  omega

theorem madeI_nat {N S : Nat} (hN : 1 ≤ N ∧ N ≤ 6) (hS : S < 2 ^ (N + 1)) : madeI N S = (madeN N S : Int) := by
  have : okS N S = true := by
    unfold okS
    rw [inB_nat hN, decide_eq_true (by omega : (0 : Int) ≤ (S : Int)), Int.toNat_natCast, Int.toNat_natCast, decide_eq_true hS]
    rfl
  unfold madeI
  rw [this, if_pos rfl]
  rfl

theorem madeV_any (N v : Nat) (hN : 1 ≤ N ∧ N ≤ 6) (hv : v ≤ N) (w : World) (hT : TzAt w) :
    Calls Tryd.prog 27 #[.int .i64 N, .int .i64 v] w fun e w' => e = .returned (.int .i64 (madeN N (2 ^ v) : Nat)) ∧ w.grownBy w' none := by
  have co := fun w => setOf_any v (by omega) w
  have cm := made_any N ((2 ^ v : Nat) : Int) w hT
  rw [madeI_nat hN (Nat.pow_lt_pow_right (by omega) (by omega))] at cm
  clear hT
  generalize madeN N (2 ^ v) = m at *
  generalize 2 ^ v = s at *
  go_enter Tryd.func27, Tryd.ntmps27
  go_wp2_with (first
    | (go_at_call 26; refine (co _).mono ?_; rintro e w' ⟨rfl, rfl⟩)
    | (go_at_call 39; refine cm.mono ?_; rintro e w' ⟨rfl, hg⟩))
  go_ret
  exact ⟨rfl, hg⟩

theorem madeI_any (N v : Nat) (hN : 1 ≤ N ∧ N ≤ 6) (hv : v ≤ N) (w : World) (hT : TzAt w) :
    Calls Tryd.prog 39 #[.int .i64 N, .int .i64 (2 ^ v)] w fun e w' => e = .returned (.int .i64 (madeN N (2 ^ v) : Nat)) ∧ w.grownBy w' none := by
  have cm := made_any N ((2 ^ v : Nat) : Int) w hT
  rw [madeI_nat hN (Nat.pow_lt_pow_right (by omega) (by omega))] at cm
  rw [Int.natCast_pow] at cm
  exact cm

set_option maxRecDepth 100000 in
set_option maxHeartbeats 4000000 in
theorem isay_any : SayC := fun n a cap xs w hT h => by
  have hm := h.1
  unfold maxLen at hm
  have HT := Lib.hid hT
  clear hT
  cases hr : rowB n xs
  · have hz : sayB n xs = false := by
      cases e : sayB n xs
      · rfl
      · exfalso
        obtain ⟨h1, h2, h3⟩ := sayB_of e
        have : rowB n xs = true := by
          rw [rowB_all (by omega)]
          refine all_yes fun j hj => ?_
          have h4 := h3 j hj
          unfold sayAt at h4
          rw [Bool.and_eq_true] at h4
          have := inB_of h4.1
          exact vokB_t (by omega)
        rw [hr] at this
        cases this
    rw [hz]
    have cr := rowok_w (cap := cap) hr w h
    clear h hr hz
    go_enter Tryd.func9, Tryd.ntmps9
    go_wp2_with fail
    refine cr.mono ?_
    rintro e w1 ⟨rfl, g1⟩
    clear cr
    go_wp2_with fail
    go_ret
    exact ⟨rfl, g1⟩
  · obtain ⟨hn, hl7, hv⟩ := rowB_of hr
    have cr := rowok_w (cap := cap) hr w h
    have HV := Lib.hid hv
    obtain ⟨N, rfl⟩ : ∃ N : Nat, n = N := ⟨n.toNat, by omega⟩
    have hN : 1 ≤ N ∧ N ≤ 6 := by omega
    have H := Lib.hid h
    clear h hr hv hn
    by_cases hl : (xs.length : Int) = (N : Int) + 1
    · have hl2 : xs.length = N + 1 := by omega
      have HL := Lib.hid hl2
      have g0 : ((xs.length : Int) != (N : Int) + 1) = false := by simp; omega
      clear hl hl2
      go_enter Tryd.func9, Tryd.ntmps9
      go_wp2_with fail
      refine cr.mono ?_
      rintro e w1 ⟨rfl, g1⟩
      clear cr
      go_wp2_with fail
      clear g0
      go_loopw [20] (fun i wr => SyRel N xs w i wr) (fun i _ => N + 1 - (intOf i).toNat)
      case atStart => exact ⟨0, by omega, rfl, fun j hj => absurd hj (by omega), g1⟩
      case round =>
        obtain ⟨k, hk, rfl, hb, hgr⟩ := hrel
        have Hb := Lib.hid hb
        clear hb
        by_cases hlt : k ≤ N
        · have hkl : k < xs.length := by have := HL.out; omega
          have hq := vokB_of (HV.out k hkl)
          rcases (H.out.grown hgr).2 with h0 | ⟨bx, ox, rfl, hbx, hcx⟩
          · rw [h0] at hkl; simp at hkl
          have hc := hcx k hkl
          have i0 : (0 : Int) ≤ (k : Int) := by omega
          have i1 : (k : Int) < (xs.length : Int) := by omega
          have hdef : Hid (sayAt N xs k = (inB (xs.getD k 0) 0 N && (xs.getD k 0 % ((Nat.gcd k N : Nat) : Int) == 0))) := rfl
          have hno := Lib.hid (fun h => sayB_no (n := (N : Int)) hkl h)
          have hyes : Hid (sayAt N xs k = true → ∀ j, j < k + 1 → sayAt N xs j = true) := fun h j hj => by
            by_cases e : j = k
            · rw [e]; exact h
            · exact Hb.out j (by omega)
          clear hcx hbx
          obtain ⟨q, hqq⟩ : ∃ q : Nat, xs.getD k 0 = q := ⟨(xs.getD k 0).toNat, by omega⟩
          rw [hqq] at hc hdef hq
          have hqN : q ≤ N := by omega
          clear hqq hq
          obtain ⟨m1, _, m3⟩ := sub_made_at hN hlt
          have co := fun w => setOf_any q (by omega) w
          have cm := madeV_any N k hN hlt wr (HT.out.grown hgr)
          have cw := fun w => within_any (2 ^ q) (madeN N (2 ^ k)) (pow_lt7 (by omega)) m1 w
          rw [m3 q hqN] at cw
          have hsay : sayAt N xs k = (q % Nat.gcd k N == 0) := by
            rw [hdef.out, inB_t (by omega), Bool.true_and]
            cases e : (q % Nat.gcd k N == 0)
            · rw [beq_eq_false_iff_ne] at e ⊢; omega
            · rw [beq_iff_eq] at e ⊢; omega
          clear m3 hdef
          cases hz : (q % Nat.gcd k N == 0)
          · rw [hz] at cw hsay
            have hf := Lib.hid (hno.out hsay)
            clear hsay hno hyes hz
            generalize madeN N (2 ^ k) = M at *
            generalize 2 ^ q = Q at *
            go_wp2_with (first
              | (go_at_call 26; refine (co _).mono ?_; rintro e w' ⟨rfl, rfl⟩)
              | (go_at_call 27; refine cm.mono ?_; rintro e w2 ⟨rfl, g2⟩)
              | (go_at_call 25; refine (cw _).mono ?_; rintro e w' ⟨rfl, rfl⟩))
            go_ret
            exact ⟨by rw [hf.out]; rfl, grownBy_trans hgr g2⟩
          · rw [hz] at cw hsay
            have hf := Lib.hid (hyes.out hsay)
            clear hsay hno hyes hz
            generalize madeN N (2 ^ k) = M at *
            generalize 2 ^ q = Q at *
            go_wp2_with (first
              | (go_at_call 26; refine (co _).mono ?_; rintro e w' ⟨rfl, rfl⟩)
              | (go_at_call 27; refine cm.mono ?_; rintro e w2 ⟨rfl, g2⟩)
              | (go_at_call 25; refine (cw _).mono ?_; rintro e w' ⟨rfl, rfl⟩))
            go_roundw
            case rel => exact ⟨k + 1, by omega, by go_num, hf.out, grownBy_trans hgr g2⟩
            case measure => simp [intOf]; omega
        · have hke : k = xs.length := by have := HL.out; omega
          have hz : Hid (sayB N xs = true) := sayB_mk (by omega) (by have := HL.out; omega) (by rw [← hke]; exact Hb.out)
          subst hke
          go_wp2_with fail
          go_ret
          exact ⟨by rw [hz.out]; rfl, hgr⟩
    · rw [sayB_f hl]
      have g0 : ((xs.length : Int) != (N : Int) + 1) = true := by simp; omega
      clear hl
      go_enter Tryd.func9, Tryd.ntmps9
      go_wp2_with fail
      refine cr.mono ?_
      rintro e w1 ⟨rfl, g1⟩
      clear cr
      go_wp2_with fail
      go_ret
      exact ⟨rfl, g1⟩

set_option maxRecDepth 100000 in
set_option maxHeartbeats 2000000 in
theorem iscnt_any : ScntC := fun n w hT => by
  have HT := Lib.hid hT
  clear hT
  have cs := steps_any n w
  cases hi : inB n 1 6
  · rw [scnI_o hi]
    rw [hi] at cs
    clear hi
    go_enter Tryd.func10, Tryd.ntmps10
    go_wp2_with (go_at_call 13; refine cs.mono ?_; rintro e w' ⟨rfl, rfl⟩)
    go_ret
    exact ⟨rfl, grownBy_refl _ _⟩
  · rw [hi] at cs
    obtain ⟨N, rfl, hN⟩ := nat_of hi
    rw [scnI_t hN]
    clear hi
    go_enter Tryd.func10, Tryd.ntmps10
    go_wp2_with (go_at_call 13; refine cs.mono ?_; rintro e w' ⟨rfl, rfl⟩)
    clear cs
    go_loopw [3, 10] (fun c i wr => ∃ k : Nat, k ≤ N + 1 ∧ i = .int .i64 k ∧ c = .int .i64 (cntS N k : Int) ∧ w.grownBy wr none) (fun _ i _ => N + 1 - (intOf i).toNat)
    case atStart => exact ⟨0, by omega, rfl, rfl, grownBy_refl _ _⟩
    case round =>
      obtain ⟨k, hk, rfl, rfl, hgr⟩ := hrel
      have b1 := cntS_le hN (v := k) (by omega)
      by_cases hlt : k ≤ N
      · have b2 := cntS_le hN (v := k + 1) (by omega)
        obtain ⟨m1, m2, _⟩ := sub_made_at hN hlt
        have cm := madeV_any N k hN hlt wr (HT.out.grown hgr)
        have co := fun w => ones_any (madeN N (2 ^ k)) (N / Nat.gcd k N + 1) m2 w
        have hdv : N / Nat.gcd k N ≤ N := Nat.div_le_self _ _
        have hnx : Hid (cntS N (k + 1) = cntS N k * (N / Nat.gcd k N + 1)) := rfl
        clear m2
        generalize madeN N (2 ^ k) = M at *
        generalize N / Nat.gcd k N = D at *
        have hw : IntKind.u64.wrap (M : Int) = (M : Int) := by rw [IntKind.wrap_u64]; omega
        have hmul : ((cntS N k : Nat) : Int) * ((D : Int) + 1) = ((cntS N (k + 1) : Nat) : Int) := by rw [hnx.out]; simp
        have hD1 : Hid (((D + 1 : Nat) : Int) = (D : Int) + 1) := by unfold Hid; omega
        rw [hD1.out] at co
        generalize hC : cntS N (k + 1) = C' at *
        have HC := Lib.hid hC
        clear hC
        generalize cntS N k = C at *
        go_wp2_with (first
          | (go_at_call 27; refine cm.mono ?_; rintro e w2 ⟨rfl, g2⟩)
          | (go_at_call 28; refine (co _).mono ?_; rintro e w' ⟨rfl, rfl⟩))
        go_roundw
        case rel => exact ⟨k + 1, by omega, by go_num, by rw [HC.out], grownBy_trans hgr g2⟩
        case measure => simp [intOf]; omega
      · obtain rfl : k = N + 1 := by omega
        go_wp2_with fail
        go_ret
        exact ⟨rfl, hgr⟩

end Go.Proofs.YtakjlfcgciglgaaDoor
