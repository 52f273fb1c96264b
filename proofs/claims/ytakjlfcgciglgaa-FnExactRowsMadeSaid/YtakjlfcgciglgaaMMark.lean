/-
  A list of rows of which no two share a block: markIntSS writes its numbers into all of them, heldIntSS finds them there. The exact law of RowsMade.
-/
import Derived.Test.YtakjlfcgciglgaaMEq
namespace Go.Proofs.Ytakjlfcgciglgaa
open Go.RowKit

/-- A row of the call's own, whatever it holds. -/
def RowI (w : World) (base N : Nat) (v : Value) (xs : List Int) : Prop :=
  xs.length = N + 1 ∧ ∃ g c, v = .slice (some ⟨g, 0, none⟩) (N + 1) c ∧ OwnI w base (some ⟨g, 0, none⟩) c xs
def ListG (w : World) (base N : Nat) (v : Value) (L : Nat) (f : Nat → List Int) : Prop :=
  ∃ vals, w.ownsRow base 28 1 v L vals ∧ (∀ i, i < L → ∃ u, vals[i]? = some u ∧ RowI w base N u (f i)) ∧ Dist vals
theorem ListD.g {w : World} {base N : Nat} {v : Value} {rs : List (List Nat)} (h : ListD w base N v rs) : ListG w base N v rs.length (fun i => rI (rs.getD i [])) := by
  obtain ⟨vals, h1, h2, h3⟩ := h
  refine ⟨vals, h1, fun i hi => ?_, h3⟩
  obtain ⟨u, h4, h5, g, c, h6, h7⟩ := h2 i hi
  refine ⟨u, h4, by rw [rI_len]; exact h5, g, c, h6, ?_⟩
  unfold OwnI
  rw [rI_len, h5, ← h6]
  exact h7
theorem ListG.kept {w w' : World} {base N : Nat} {v : Value} {L : Nat} {f : Nat → List Int} (h : ListG w base N v L f) (hg : w.grownBy w' none) : ListG w' base N v L f := by
  obtain ⟨vals, h1, h2, h3⟩ := h
  refine ⟨vals, own_keptM h1 hg, fun i hi => ?_, h3⟩
  obtain ⟨u, h4, h5, g, c, h6, h7⟩ := h2 i hi
  exact ⟨u, h4, h5, g, c, h6, h7.kept hg⟩
theorem ListG.shape {w : World} {base N : Nat} {v : Value} {L : Nat} {f : Nat → List Int} (h : ListG w base N v L f) : ∃ a c, v = .slice a L c := by
  obtain ⟨vals, h1, _⟩ := h
  rcases h1.2 with ⟨rfl, h0⟩ | ⟨g, c, cur, rfl, _⟩
  · exact ⟨none, 0, by rw [h0]⟩
  · exact ⟨_, c, rfl⟩
theorem ListG.at {w : World} {base N : Nat} {v : Value} {L : Nat} {f : Nat → List Int} (h : ListG w base N v L f) {i : Nat} (hi : i < L) :
    ∃ g c gi ci, v = .slice (some ⟨g, 0, none⟩) L c ∧ w.cell? ⟨g, i, none⟩ = some (.slice (some ⟨gi, 0, none⟩) (N + 1) ci) ∧ (f i).length = N + 1 ∧ OwnI w base (some ⟨gi, 0, none⟩) ci (f i) := by
  obtain ⟨vals, h1, h2, _⟩ := h
  obtain ⟨u, h3, h4, gi, ci, rfl, h5⟩ := h2 i hi
  rcases h1.2 with ⟨rfl, h0⟩ | ⟨g, c, cur, rfl, hb2, hg, _⟩
  · rw [h0] at hi; exact absurd hi (Nat.not_lt_zero i)
  · exact ⟨g, c, gi, ci, rfl, by rw [World.ownsRow.cellAt h1 i (by omega), h3], h4, h5⟩
/-- One row is written: the others, and the list, are as they were. -/
theorem ListG.mark {w w' : World} {base N : Nat} {g c L : Nat} {f : Nat → List Int} {i gi ci : Nat} {ys : List Int} (h : ListG w base N (.slice (some ⟨g, 0, none⟩) L c) L f) (hi : i < L) (hc : w.cell? ⟨g, i, none⟩ = some (.slice (some ⟨gi, 0, none⟩) (N + 1) ci))
    (hy : ys.length = N + 1) (ho : OwnI w' base (some ⟨gi, 0, none⟩) ci ys) (hg : w.grownBy w' (some gi)) : ListG w' base N (.slice (some ⟨g, 0, none⟩) L c) L (fun j => if j = i then ys else f j) := by
  obtain ⟨vals, h1, h2, h3⟩ := h
  obtain ⟨u, h4, h5, gu, cu, rfl, h6⟩ := h2 i hi
  have hci := World.ownsRow.cellAt h1 i (by omega)
  rw [hc, h4] at hci
  cases hci
  have ne : 28 ≠ 3 := by decide
  have hlist : w'.ownsRow base 28 1 (.slice (some ⟨g, 0, none⟩) L c) L vals := World.ownsRow.kept h1 hg (own_typed h1 h6 ne)
  refine ⟨vals, hlist, fun j hj => ?_, h3⟩
  by_cases e : j = i
  · subst e
    exact ⟨_, h4, by simp only [↓reduceIte]; exact hy, gi, ci, rfl, by simp only [↓reduceIte]; exact ho⟩
  · obtain ⟨uj, q1, q2, gj, cj, rfl, q3⟩ := h2 j hj
    refine ⟨_, q1, by simp only [if_neg e]; exact q2, gj, cj, rfl, ?_⟩
    simp only [if_neg e]
    refine World.ownsRow.kept q3 hg (.inr fun he => ?_)
    have hd : (Value.slice (some ⟨gj, 0, none⟩) (N + 1) cj).ownBlock ≠ (Value.slice (some ⟨gi, 0, none⟩) (N + 1) ci).ownBlock := by
      by_cases hl : j < i
      · exact h3 j i _ _ hl q1 h4
      · exact fun e2 => h3 i j _ _ (by omega) h4 q1 e2.symm
    exact hd he
def mkF (N : Nat) (rs : List (List Nat)) (k i j : Nat) : List Int := if j < i then marks ((k : Int) + ((j * (N + 1) : Nat) : Int)) (N + 1) else rI (rs.getD j [])
theorem ListG.congr {w : World} {base N : Nat} {v : Value} {L : Nat} {f g : Nat → List Int} (h : ListG w base N v L f) (e : ∀ j, j < L → f j = g j) : ListG w base N v L g := by
  obtain ⟨vals, h1, h2, h3⟩ := h
  refine ⟨vals, h1, fun i hi => ?_, h3⟩
  obtain ⟨u, h4, h5⟩ := h2 i hi
  exact ⟨u, h4, by rw [← e i hi]; exact h5⟩

set_option maxRecDepth 100000 in
set_option maxHeartbeats 4000000 in
theorem markSS_any (N : Nat) (hN : N ≤ 4) (base : Nat) (v : Value) (rs : List (List Nat)) (hL : rs.length ≤ 4000) (w1 w : World) (hw : w1.grownBy w none) (hb : w1.heap.size ≤ base) (h : ListD w base N v rs) :
    Calls Try.prog 7 #[v, .int .i64 1] w fun e w' => e = .returned (.int .i64 (1 + ((rs.length * (N + 1) : Nat) : Int))) ∧ ListG w' base N v rs.length (fun j => marks (1 + ((j * (N + 1) : Nat) : Int)) (N + 1)) ∧ w1.grownBy w' none := by
  have hg := h.g
  obtain ⟨a, c, rfl⟩ := hg.shape
  have hst : ListG w base N (.slice a rs.length c) rs.length (mkF N rs 1 0) := hg.congr fun j _ => by unfold mkF; rw [if_neg (by omega)]
  have Hst := Lib.hid hst
  clear h hg hst
  have hbnd : ∀ i, i ≤ rs.length → i * (N + 1) ≤ 20000 := fun i hi => by
    have h1 := Nat.mul_le_mul (show i ≤ 4000 by omega) (show N + 1 ≤ 5 by omega)
    omega
  have Hbnd := Lib.hid hbnd
  clear hbnd
  go_enter Try.func7, Try.ntmps7
  go_wp2_with fail
  go_loopw [1, 5] (fun q i wr => ∃ k : Nat, k ≤ rs.length ∧ i = .int .i64 k ∧ q = .int .i64 (1 + ((k * (N + 1) : Nat) : Int)) ∧ ListG wr base N (.slice a rs.length c) rs.length (mkF N rs 1 k) ∧ w1.grownBy wr none) (fun _ i _ => rs.length - (RowKit.intOf i).toNat)
  case atStart => exact ⟨0, by omega, rfl, by simp, Hst.out, hw⟩
  case round =>
    obtain ⟨k, hk, rfl, rfl, hl, hgr⟩ := hrel
    have b1 := Hbnd.out k hk
    by_cases hlt : k < rs.length
    · obtain ⟨g, c', gi, ci, he, hc, hlen, ho⟩ := hl.at hlt
      cases he
      have b2 := Hbnd.out (k + 1) (by omega)
      have hnx : Hid ((k + 1) * (N + 1) = k * (N + 1) + (N + 1)) := by unfold Hid; rw [Nat.add_mul, Nat.one_mul]
      rw [hnx.out] at b2
      have cm := markIntS_any (1 + ((k * (N + 1) : Nat) : Int)) (by omega) base (some ⟨gi, 0, none⟩) ci (mkF N rs 1 k k) (by omega) wr ho
      have hnext : Hid (∀ w', w'.ownsRow base 3 1 (.slice (some ⟨gi, 0, none⟩) (N + 1) ci) (N + 1) ((marks (1 + ((k * (N + 1) : Nat) : Int)) (N + 1)).map (Value.int .i64)) → wr.grownBy w' (some gi) → ListG w' base N (.slice (some ⟨g, 0, none⟩) rs.length c) rs.length (mkF N rs 1 (k + 1)) ∧ w1.grownBy w' none) := fun w' q1 q2 => by
        have q3 : OwnI w' base (some ⟨gi, 0, none⟩) ci (marks (1 + ((k * (N + 1) : Nat) : Int)) (N + 1)) := by unfold OwnI; rw [marks_len]; exact q1
        refine ⟨(hl.mark hlt hc (marks_len _ _) q3 q2).congr fun j _ => ?_, ?_⟩
        · unfold mkF
          by_cases e : j = k
          · subst e
            rw [if_pos rfl, if_pos (by omega)]
            rfl
          · rw [if_neg e]
            by_cases e2 : j < k
            · rw [if_pos e2, if_pos (by omega)]
            · rw [if_neg e2, if_neg (by omega)]
        · exact grownBy_row hgr ho hb q2
      unfold MarkPost at cm
      rw [hlen] at cm
      have k0' : (0 : Int) ≤ (k : Int) := by omega
      have k1' : (k : Int) < (rs.length : Int) := by omega
      clear hl ho hlen
      generalize marks (1 + ((k * (N + 1) : Nat) : Int)) (N + 1) = ms at *
      generalize k * (N + 1) = T at *
      go_wp2_with (go_at_call 19; refine cm.mono ?_; rintro e w2 ⟨rfl, q1, q2⟩; have q3 := Lib.hid (hnext.out _ q1 q2); clear q1 q2)
      go_roundw
      case rel => exact ⟨k + 1, by omega, by go_num, by rw [hnx.out]; refine congrArg (fun z : Int => Value.int .i64 z) ?_; omega, q3.out.1, q3.out.2⟩
      case measure => simp [RowKit.intOf]; omega
    · obtain rfl : k = rs.length := by omega
      have Hl := Lib.hid (hl.congr (g := fun j => marks (1 + ((j * (N + 1) : Nat) : Int)) (N + 1)) fun j hj => by unfold mkF; rw [if_pos hj]; rfl)
      clear hl
      go_wp2_with fail
      go_ret
      exact ⟨rfl, Hl.out, hgr⟩

set_option maxRecDepth 100000 in
set_option maxHeartbeats 4000000 in
theorem heldSS_any (N : Nat) (hN : N ≤ 4) (base : Nat) (v : Value) (L : Nat) (hL : L ≤ 4000) (w : World) (h : ListG w base N v L (fun j => marks (1 + ((j * (N + 1) : Nat) : Int)) (N + 1))) :
    Calls Try.prog 8 #[v, .int .i64 1] w fun e w' => e = .returned (.int .i64 (1 + ((L * (N + 1) : Nat) : Int))) ∧ w = w' := by
  obtain ⟨a, c, rfl⟩ := h.shape
  have H := Lib.hid h
  clear h
  have hbnd : ∀ i, i ≤ L → i * (N + 1) ≤ 20000 := fun i hi => by
    have h1 := Nat.mul_le_mul (show i ≤ 4000 by omega) (show N + 1 ≤ 5 by omega)
    omega
  have Hbnd := Lib.hid hbnd
  clear hbnd
  go_enter Try.func8, Try.ntmps8
  go_wp2_with fail
  go_loopw [1, 5] (fun q i wr => ∃ k : Nat, k ≤ L ∧ i = .int .i64 k ∧ q = .int .i64 (1 + ((k * (N + 1) : Nat) : Int)) ∧ w = wr) (fun _ i _ => L - (RowKit.intOf i).toNat)
  case atStart => exact ⟨0, by omega, rfl, by simp, rfl⟩
  case round =>
    obtain ⟨k, hk, rfl, rfl, rfl⟩ := hrel
    have b1 := Hbnd.out k hk
    by_cases hlt : k < L
    · obtain ⟨g, c', gi, ci, he, hc, hlen, ho⟩ := H.out.at hlt
      cases he
      have b2 := Hbnd.out (k + 1) (by omega)
      have hnx : Hid ((k + 1) * (N + 1) = k * (N + 1) + (N + 1)) := by unfold Hid; rw [Nat.add_mul, Nat.one_mul]
      rw [hnx.out] at b2
      have ch := heldIntS_any (1 + ((k * (N + 1) : Nat) : Int)) (by omega) (some ⟨gi, 0, none⟩) (N + 1) ci (by omega) w (ho.at (by rw [hlen]; unfold maxLen; omega))
      have k0' : (0 : Int) ≤ (k : Int) := by omega
      have k1' : (k : Int) < (L : Int) := by omega
      clear ho hlen
      generalize k * (N + 1) = T at *
      go_wp2_with (go_at_call 20; refine ch.mono ?_; rintro e w2 ⟨rfl, rfl⟩)
      go_roundw
      case rel => exact ⟨k + 1, by omega, by go_num, by rw [hnx.out]; refine congrArg (fun z : Int => Value.int .i64 z) ?_; omega, by first | rfl | trivial⟩
      case measure => simp [RowKit.intOf]; omega
    · obtain rfl : k = L := by omega
      go_wp2_with fail
      go_ret
      exact ⟨rfl, rfl⟩

set_option maxHeartbeats 2000000 in
theorem FnExactRowsMade_walk (a0 : Int) (_w0 : (Lit.int .i64 a0).wf = true) (w : World) :
    Calls Try.prog 3 #[.int .i64 a0] w fun e w' => e = .returned (.bool true) ∧ Below w.heap.size w w' := by
  have cs := fun w => srows_all a0 w
  have ci := fun w => irows_all a0 w
  have hN := Nn_le a0
  have hL := rowsM_len a0
  generalize rowsM a0 = rs at *
  generalize Nn a0 = N at *
  have hT : rs.length * (N + 1) ≤ 20000 := by
    have h1 := Nat.mul_le_mul (show rs.length ≤ 4000 by omega) (show N + 1 ≤ 5 by omega)
    omega
  have Cs := Lib.hid cs
  have Ci := Lib.hid ci
  clear cs ci
  go_enter Try.func3, Try.ntmps3
  go_wp2_with fail
  refine (Cs.out _).mono ?_
  rintro e w1 ⟨v1, rfl, l1, g1⟩
  have L1 := Lib.hid l1
  clear l1
  go_wp2_with fail
  refine (Ci.out _).mono ?_
  rintro e w2 ⟨v2, rfl, l2, g2⟩
  have L2 := Lib.hid l2
  clear l2
  have c3 := eqSS_any N hN _ _ v2 v1 rs (by omega) w2 L2.out.list (L1.out.kept g2)
  go_wp2_with fail
  refine c3.mono ?_
  rintro e w3 ⟨rfl, g3⟩
  clear c3
  have c4 := markSS_any N hN _ v2 rs (by omega) w1 w3 (grownBy_trans g2 g3) (Nat.le_refl _) (L2.out.kept g3)
  generalize hTT : rs.length * (N + 1) = T at *
  have HT := Lib.hid hTT
  clear hTT
  go_wp2_with fail
  refine c4.mono ?_
  rintro e w4 ⟨rfl, l4, g4⟩
  clear c4
  have L4 := Lib.hid l4
  clear l4
  have c5 := heldSS_any N hN _ v2 rs.length (by omega) w4 L4.out
  rw [HT.out] at c5
  go_wp2_with fail
  refine c5.mono ?_
  rintro e w5 ⟨rfl, rfl⟩
  clear c5
  go_wp2_with fail
  refine (Ci.out _).mono ?_
  rintro e w6 ⟨v6, rfl, l6, g6⟩
  have L6 := Lib.hid l6
  clear l6
  have c7 := eqSS_any N hN _ _ v6 v1 rs (by omega) w6 L6.out.list ((L1.out.kept g4).kept g6)
  go_wp2_with fail
  refine c7.mono ?_
  rintro e w7 ⟨rfl, g7⟩
  clear c7
  have c8 := heldSS_any N hN _ v2 rs.length (by omega) w7 ((L4.out.kept g6).kept g7)
  rw [HT.out] at c8
  go_wp2_with fail
  refine c8.mono ?_
  rintro e w8 ⟨rfl, rfl⟩
  clear c8
  go_wp2_with fail
  go_ret
  exact ⟨rfl, below_of (grownBy_trans (grownBy_trans g1 g4) (grownBy_trans g6 g7))⟩

end Go.Proofs.Ytakjlfcgciglgaa
