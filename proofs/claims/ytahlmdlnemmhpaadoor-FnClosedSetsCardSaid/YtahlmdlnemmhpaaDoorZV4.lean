/-
  The walk of the law FnClosedSets. The table of math/bits lies as it is laid.
-/
import Derived.Test.YtahlmdlnemmhpaaDoorZDraw2
import Derived.Test.YtahlmdlnemmhpaaDoorZSpecW
import Derived.Outline
namespace Go.Proofs.YtahlmdlnemmhpaaDoor
open Go.RowKit

/-- How many numbers in 1..k divide n. -/
def dvTo (n : Nat) : Nat → Nat
  | 0 => 0
  | k + 1 => if n % (k + 1) = 0 then dvTo n k + 1 else dvTo n k
theorem dvTo_hit {n k : Nat} (h : n % (k + 1) = 0) : dvTo n (k + 1) = dvTo n k + 1 := if_pos h
theorem dvTo_miss {n k : Nat} (h : ¬ n % (k + 1) = 0) : dvTo n (k + 1) = dvTo n k := if_neg h
theorem dvTo_le (n : Nat) : ∀ k, dvTo n k ≤ k := by
  intro k
  induction k with
  | zero => exact Nat.le_refl _
  | succ k ih =>
    unfold dvTo
    split <;> omega

/-- What the law asks of all closed sets of a chain. -/
theorem sets_facts {N : Nat} (hN : 1 ≤ N ∧ N ≤ 6) : (setsI (N : Int)).length = dvTo N N ∧ 1 ≤ (setsI (N : Int)).length ∧ (setsI (N : Int)).length ≤ 128 ∧ ascL (setsI (N : Int)) = true ∧
    ∀ k, k < (setsI (N : Int)).length → ∃ X M : Nat, (setsI (N : Int)).getD k 0 = (X : Int) ∧ stpI (N : Int) (X : Int) = (M : Int) ∧ withI (N : Int) (M : Int) = (X : Int) := by
  have h : [1, 2, 3, 4, 5, 6].all (fun n => (setsL n).length == dvTo n n && decide (1 ≤ (setsL n).length) && decide ((setsL n).length ≤ 128) && ascL ((setsL n).map Int.ofNat) && (setsL n).all fun x => stpI (n : Int) (x : Int) == ((stpN n x : Nat) : Int) && withI (n : Int) ((stpN n x : Nat) : Int) == (x : Int)) = true := by decide +kernel
  rw [List.all_eq_true] at h
  have h1 := h N (by simp; omega)
  simp only [Bool.and_eq_true, decide_eq_true_eq, beq_iff_eq, List.all_eq_true] at h1
  obtain ⟨⟨⟨⟨k1, k2⟩, k3⟩, k4⟩, k5⟩ := h1
  have e : setsI (N : Int) = (setsL N).map Int.ofNat := by unfold setsI; rw [inB_t (by omega), Int.toNat_natCast]; rfl
  rw [e, List.length_map]
  refine ⟨k1, k2, k3, k4, fun k hk => ?_⟩
  have hm : (setsL N)[k] ∈ setsL N := List.getElem_mem hk
  obtain ⟨q1, q2⟩ := k5 _ hm
  refine ⟨(setsL N)[k], stpN N (setsL N)[k], ?_, q1, q2⟩
  rw [List.getD_eq_getElem?_getD, List.getElem?_map, List.getElem?_eq_getElem hk]
  rfl

theorem heldZ {w w1 w2 : World} {a : Addr} {x : Value} (h : w1.cell? a = some x ∧ w.grownBy w1 none) (g : w1.grownBy w2 none) : w2.cell? a = some x ∧ w.grownBy w2 none := ⟨cell_grownZ h.1 g, grownBy_trans h.2 g⟩
theorem undrawZ {a b : World} (h : a.drew.grownBy b none) : a.grownBy b none := ⟨h.os, h.tape, h.output, h.size, h.block⟩
theorem tz_held {w w1 : World} {a : Addr} {x : Value} (hT : TzAt w) (h : w1.cell? a = some x ∧ w.grownBy w1 none) : TzAt w1 := hT.grown h.2

set_option maxRecDepth 100000 in
set_option maxHeartbeats 2000000 in
theorem FnClosedSets_walk (a0 : Option Addr) (len0 cap0 : Nat) (z0 : List Int) (w : World) (w0 : IsRow .u8 w a0 len0 cap0 z0) (hT : TzAt w) :
    Calls Tryd.prog 6 #[.slice a0 len0 cap0] w fun e w' => e = .returned (.bool true) ∧ Below w.heap.size w w' := by
  by_cases hl : (1048576 : Int) < (len0 : Int)
  · clear w0
    go_enter Tryd.func6, Tryd.ntmps6
    go_wp2_with fail
    go_ret
    exact ⟨rfl, Below.refl _ _⟩
  · go_enter Tryd.func6, Tryd.ntmps6
    go_wp2_with fail
    refine (DrawClosedSets_any _ _ _ _ _ w0).mono ?_
    rintro e w1 ⟨n, rfl, hn1, hn2, g1⟩
    clear w0
    have ci := closedSets_any n w1 (hT.grown g1)
    have cs := fun w => ssets_any n w
    cases hi : inB n 1 6
    · have hz : setsI n = [] := by unfold setsI; rw [hi]; rfl
      have hb := inB_not hi
      rw [hz] at ci cs
      have G1 := Lib.hid g1
      clear hz hi hT g1
      have hlm : ([] : List Int).length ≤ maxLen := by simp
      go_wp2_with fail
      refine ci.mono ?_
      rintro e w2 ⟨a, ca, rfl, ho2, hg2⟩
      go_wp2_with fail
      refine (cs _).mono ?_
      rintro e w3 ⟨b, cb, rfl, ho3, hg3⟩
      go_wp2_with fail
      refine (sameInts_any _ _ _ _ [] [] _ ((OwnI.kept ho2 hg3).at hlm) (OwnI.at ho3 hlm)).mono ?_
      rintro e w4 ⟨rfl, hg4⟩
      have gg := grownBy_trans (grownBy_trans (grownBy_trans G1.out hg2) hg3) hg4
      rw [sameL_self]
      clear ho2 ho3 hg2 hg3 hg4 cs ci hlm
      by_cases h1 : n < 1
      · go_wp2_with fail
        refine (alive_any _).mono ?_
        rintro e w5 ⟨rfl, rfl⟩
        go_wp2_with fail
        go_ret
        exact ⟨rfl, below_of gg⟩
      · have h6 : (6 : Int) < n := by omega
        have d6 : decide ((6 : Int) < n) = true := decide_eq_true h6
        clear hb
        go_wp2_with fail
        refine (alive_any _).mono ?_
        rintro e w5 ⟨rfl, rfl⟩
        go_wp2_with fail
        go_ret
        exact ⟨rfl, below_of gg⟩
    · have hb := inB_of hi
      obtain ⟨N, rfl⟩ : ∃ N : Nat, n = (N : Int) := ⟨n.toNat, by omega⟩
      have hN : 1 ≤ N ∧ N ≤ 6 := by omega
      obtain ⟨hmany, hl1, hl2, hasc, hel⟩ := sets_facts hN
      have c1 : ∀ (X M : Nat) (w : World), stpI (N : Int) (X : Int) = (M : Int) → TzAt w → Calls Tryd.prog 29 #[.int .i64 N, .int .i64 X] w fun e w' => e = .returned (.int .i64 (M : Int)) ∧ w.grownBy w' none := fun X M w h hT => by
        have := stepsFor_any (N : Int) (X : Int) w hT
        rw [h] at this
        exact this
      have c2 : ∀ (X M : Nat) (w : World), withI (N : Int) (M : Int) = (X : Int) → Calls Tryd.prog 26 #[.int .i64 N, .int .i64 M] w fun e w' => e = .returned (.int .i64 (X : Int)) ∧ w.grownBy w' none := fun X M w h => by
        have := within_chain (N : Int) (M : Int) w
        rw [h] at this
        exact this
      generalize setsI (N : Int) = zs at *
      have hlen2 : zs.length ≤ maxLen := by unfold maxLen; omega
      have Hlen2 := Lib.hid hlen2
      have Hel := Lib.hid hel
      have Has := Lib.hid hasc
      have Hmany := Lib.hid hmany
      have G1 := Lib.hid g1
      clear hlen2 hel hasc hmany hi hb g1
      go_wp2_with fail
      refine ci.mono ?_
      rintro e w2 ⟨a, ca, rfl, ho2, hg2⟩
      have H2 := Lib.hid ho2
      clear ho2 ci
      go_wp2_with fail
      refine (cs _).mono ?_
      rintro e w3 ⟨b, cb, rfl, ho3, hg3⟩
      have H3 := Lib.hid ho3
      have H2' := Lib.hid (H2.out.kept hg3)
      clear ho3 cs
      go_wp2_with fail
      refine (sameInts_any _ _ _ _ zs zs _ (H2'.out.at Hlen2.out) (H3.out.at Hlen2.out)).mono ?_
      rintro e w4 ⟨rfl, hg4⟩
      have hA := grownBy_trans (grownBy_trans (grownBy_trans G1.out hg2) hg3) hg4
      have H4 := Lib.hid ((H2'.out.kept hg4).at Hlen2.out)
      rw [sameL_self]
      clear hg2 hg3 hg4
      have z1 : ((zs.length : Int) == 0) = false := by rw [beq_eq_false_iff_ne]; omega
      go_wp2_with fail
      go_loopw [5, 6] (fun m i wr => ∃ d : Nat, d ≤ N ∧ i = .int .i64 ((d : Int) + 1) ∧ m = .int .i64 ((dvTo N d : Nat) : Int) ∧ w4 = wr) (fun _ i _ => (N + 1 - intOf i).toNat)
      case atStart => exact ⟨0, by omega, rfl, rfl, rfl⟩
      case round =>
        obtain ⟨d, hd, rfl, rfl, rfl⟩ := hrel
        have hdl := dvTo_le N d
        by_cases hlt : d < N
        · have dz : ¬ ((d : Int) + 1 = 0) := by omega
          by_cases hm : N % (d + 1) = 0
          · have gm : ((N : Int) % ((d : Int) + 1) == 0) = true := by
              have : (N : Int) % ((d : Int) + 1) = ((N % (d + 1) : Nat) : Int) := rfl
              rw [this, hm]; rfl
            have hx := Lib.hid (dvTo_hit hm)
            clear hm
            go_wp2_with fail
            go_roundw
            case rel => exact ⟨d + 1, by omega, by go_num, by rw [hx.out]; rfl, trivial⟩
            case measure => simp [intOf]; omega
          · have gm : ((N : Int) % ((d : Int) + 1) == 0) = false := by
              have : (N : Int) % ((d : Int) + 1) = ((N % (d + 1) : Nat) : Int) := rfl
              rw [this, beq_eq_false_iff_ne]; omega
            have hx := Lib.hid (dvTo_miss hm)
            clear hm
            go_wp2_with fail
            go_roundw
            case rel => exact ⟨d + 1, by omega, by go_num, by rw [hx.out], trivial⟩
            case measure => simp [intOf]; omega
        · obtain rfl : d = N := by omega
          go_wp2_with fail
          go_loopw [7] (fun i wr => ∃ k : Nat, k ≤ zs.length ∧ i = .int .i64 k ∧ w.grownBy wr none ∧ w4.grownBy wr none) (fun i _ => zs.length - (intOf i).toNat)
          case atStart => exact ⟨0, by omega, rfl, hA, grownBy_refl _ _⟩
          case round =>
            obtain ⟨k, hk, rfl, hgr, hg4⟩ := hrel
            by_cases hlt2 : k < zs.length
            · obtain ⟨X, M, q1, q2, q3⟩ := Hel.out k hlt2
              have hx2 := H4.out.grown hg4
              rcases hx2.2 with h0 | ⟨bx, ox, rfl, hbx, hcx⟩
              · rw [h0] at hlt2; simp at hlt2
              have hc := hcx k hlt2
              rw [q1] at hc
              have cX := fun w hT => c1 X M w q2 hT
              have cY := fun w => c2 X M w q3
              have i0 : (0 : Int) ≤ (k : Int) := by omega
              have i1 : (k : Int) < (zs.length : Int) := by omega
              have Hz := Lib.hid hx2
              clear hcx hbx q1 q2 q3 hx2
              have hb0 : wr.drew.cell? ⟨bx, ox + k, none⟩ = some (.int .i64 (X : Int)) ∧ w.grownBy wr.drew none := ⟨hc, grownBy_drew hgr⟩
              go_wp2_with fail
              go_region_held3 (fun w' => w'.cell? ⟨bx, ox + k, none⟩ = some (.int .i64 (X : Int)) ∧ w.grownBy w' none) (first | exact hb0 | exact heldZ (by assumption) gy | exact heldZ (by assumption) gx | assumption)
                (first
                  | (go_at_call 29; refine (cX _ (tz_held hT (by assumption))).mono ?_; rintro e wa ⟨rfl, gx⟩)
                  | (go_at_call 26; refine (cY _).mono ?_; rintro e wb ⟨rfl, gy⟩))
              all_goals
                go_wp2_with fail
              all_goals
                go_roundw
                case rel => exact ⟨k + 1, by omega, by go_num, grownBy_trans hgr (grownBy_trans (undrawZ gx) gy), grownBy_trans hg4 (grownBy_trans (undrawZ gx) gy)⟩
                case measure => simp [intOf]; omega
            · obtain rfl : k = zs.length := by omega
              have gm : ((zs.length : Int) == ((dvTo d d : Nat) : Int)) = true := by rw [beq_iff_eq, Hmany.out]
              go_wp2_with fail
              refine (ascend_any _ _ zs _ (H4.out.grown hg4)).mono ?_
              rintro e w5 ⟨rfl, hg5⟩
              rw [Has.out]
              go_wp2_with fail
              go_ret
              exact ⟨rfl, below_of (grownBy_trans hgr hg5)⟩

end Go.Proofs.YtahlmdlnemmhpaaDoor
