/-
  impl's withPlace, numberOfRow, countRows, rowOfNumber at chains of 1 to 3 steps; truthKept and the function that it hands back.
-/
import Derived.Test.YthfikgaghinfbaaLImp
import Derived.Deep.QuietTactic
import Derived.BigQuiet
namespace Go.Proofs.Ythfikgaghinfbaa
open Go.RowKit

theorem lwithP_any (N C d CB : Nat) (hm : C * (N + 1) + d = CB) (hb : CB ≤ 1000) (_hC : C ≤ 1000) (hd : d ≤ 1000) (hN : N ≤ 3) (w : World) :
    Calls Try.prog 86 #[.int .i64 N, .int .i64 C, .int .i64 d] w fun e w' => e = .returned (.int .i64 CB) ∧ w = w' := by
  obtain ⟨D, hD⟩ : ∃ D, C * (N + 1) = D := ⟨_, rfl⟩
  have hmul : (C : Int) * ((N : Int) + 1) = (D : Int) := by rw [← hD]; simp
  rw [hD] at hm
  have HM := Lib.hid hm
  have hD2 : D ≤ 1000 := by omega
  clear hD hm hb
  go_enter Try.func86, Try.ntmps86
  go_wp2_with fail
  go_ret
  exact ⟨by rw [← HM.out]; refine congrArg (fun z : Int => Ending.returned (Value.int .i64 z)) ?_; omega, rfl⟩

set_option maxHeartbeats 1000000 in
theorem ilcode_any (N : Nat) (a : Option Addr) (cap : Nat) (xs : List Int) (w : World) (h : IntsAt w a xs) (hg : gameB (N : Int) xs = true) :
    Calls Try.prog 78 #[.int .i64 N, .slice a xs.length cap] w fun e w' => e = .returned (.int .i64 (codeL N xs : Nat)) ∧ w = w' := by
  rw [code_cK]
  have hN : 1 ≤ N ∧ N ≤ 3 := by have := (gameB_of hg).1; omega
  have hl3 := (gameB_of hg).2.1.2
  have HX := Lib.hid (gameB_of hg).2.2
  have HC := Lib.hid (fun (k : Nat) (hk : k ≤ xs.length) => cK_64 hg hk)
  have H := Lib.hid h
  have HN := Lib.hid hN
  clear h hg hN
  go_enter Try.func78, Try.ntmps78
  go_wp2_with fail
  go_loopw [5, 10] (fun v i wr => CodeRel N xs w v i wr) (fun _ i _ => xs.length - (intOf i).toNat)
  case atStart => exact ⟨0, by omega, rfl, rfl, rfl⟩
  case round =>
    obtain ⟨k, hk, rfl, rfl, rfl⟩ := hrel
    by_cases hlt : k < xs.length
    · rcases H.out.2 with h0 | ⟨bx, ox, rfl, hbx, hcx⟩
      · rw [h0] at hlt; simp at hlt
      have hc := hcx k hlt
      have hb := HC.out k hk
      have hb2 := HC.out (k + 1) (by omega)
      have hq := HX.out k hlt
      have hs := Lib.hid (show cK N xs (k + 1) = cK N xs k * (N + 1) + (xs.getD k 0).toNat from rfl)
      obtain ⟨Q, hQ⟩ := Int.eq_ofNat_of_zero_le hq.1
      have cw := fun w => lwithP_any N (cK N xs k) Q (cK N xs (k + 1)) (by rw [hs.out, hQ]; rfl) (by omega) (by omega) (by have := HN.out; omega) HN.out.2 w
      rw [hQ] at hc
      clear hcx hbx hq hQ hs
      obtain ⟨C2, hC2⟩ : ∃ C2, cK N xs (k + 1) = C2 := ⟨_, rfl⟩
      have H2 := Lib.hid hC2
      rw [hC2] at cw hb2
      clear hC2
      generalize cK N xs k = C at *
      go_wp2_with (go_at_call 86; refine (cw _).mono ?_; rintro e w' ⟨rfl, rfl⟩)
      go_roundw
      case rel => exact ⟨k + 1, by omega, by rw [H2.out], by go_num, rfl⟩
      case measure => simp [intOf]; omega
    · obtain rfl : k = xs.length := by omega
      go_wp2_with fail
      go_ret
      exact ⟨rfl, rfl⟩

set_option maxHeartbeats 1000000 in
theorem icount_any (N L : Nat) (hN : 1 ≤ N ∧ N ≤ 3) (hL : 1 ≤ L ∧ L ≤ 3) (w : World) :
    Calls Try.prog 73 #[.int .i64 N, .int .i64 L] w fun e w' => e = .returned (.int .i64 (pw N L : Nat)) ∧ w = w' := by
  have HN := Lib.hid hN
  have HL := Lib.hid hL
  have n3 : (N : Int) ≤ 3 := by omega
  have n0 : (0 : Int) ≤ (N : Int) := by omega
  have l3 : (L : Int) ≤ 3 := by omega
  clear hN hL
  go_enter Try.func73, Try.ntmps73
  go_wp2_with fail
  go_loopw [5, 7] (fun v i wr => PwRel N L w v i wr) (fun _ i _ => L - (intOf i).toNat)
  case atStart => exact ⟨0, by omega, rfl, rfl, rfl⟩
  case round =>
    obtain ⟨k, hk, rfl, rfl, rfl⟩ := hrel
    by_cases hlt : k < L
    · have hst := Lib.hid (pw_step N k)
      have b1 := (pw_le (N := N) (k := k) HN.out.2 (by have := HL.out; omega)).2
      have b2 := (pw_le (N := N) (k := k + 1) HN.out.2 (by have := HL.out; omega)).2
      obtain ⟨P2, hP2⟩ : ∃ P, pw N (k + 1) = P := ⟨_, rfl⟩
      have hp2 := Lib.hid hP2
      have hp : ((pw N k : Nat) : Int) * ((N : Int) + 1) = (P2 : Int) := by rw [← hP2, hst.out]; push_cast; rfl
      rw [hP2] at b2
      clear hst hP2
      generalize pw N k = P1 at *
      go_wp2_with fail
      go_roundw
      case rel => exact ⟨k + 1, by omega, by rw [hp2.out], by go_num, rfl⟩
      case measure => simp [intOf]; omega
    · obtain rfl : k = L := by omega
      go_wp2_with fail
      go_ret
      exact ⟨rfl, rfl⟩

/-- A row that was made place by place, from the last one on. -/
def LrnRel (N L c : Nat) (w : World) (v i : Value) (wr : World) : Prop :=
  ∃ (R : Nat) (vs : List Value), R ≤ L ∧ v = .int .i64 (c / (N + 1) ^ (L - R) : Nat) ∧ i = .int .i64 ((R : Int) - 1) ∧ wr.ownsRow w.heap.size 3 1 (.slice (some ⟨w.heap.size, 0, none⟩) L L) L vs ∧ (∀ k, k < L → R ≤ k → vs[k]? = some (.int .i64 (digN N L c k : Nat))) ∧ w.grownBy wr none

set_option maxHeartbeats 2000000 in
theorem irow_any (N L c : Nat) (hN : 1 ≤ N ∧ N ≤ 3) (hL : 1 ≤ L ∧ L ≤ 3) (hc : c ≤ 1000) (w : World) :
    Calls Try.prog 74 #[.int .i64 N, .int .i64 L, .int .i64 c] w (RowPost N L c w) := by
  obtain ⟨i0, hi, hz0, hz1, hz2⟩ := info_parts infoInt
  have hNN : N = 1 ∨ N = 2 ∨ N = 3 := by omega
  have l1 : (1 : Int) ≤ (L : Int) := by omega
  have l3 : (L : Int) ≤ 3 := by omega
  have n3 : (N : Int) ≤ 3 := by omega
  have n0 : (1 : Int) ≤ (N : Int) := by omega
  have HNN := Lib.hid hNN
  clear hNN hN
  go_enter Try.func74, Try.ntmps74
  go_wp2_with (at_make; refine wpList_make_full _ rfl _ _ 23 rfl w.heap.size 3 i0 (.int .i64 0) 1 Try.underlying23 hi hz0 hz1 .i64 .i64 _ _ L rfl rfl rfl rfl ?b2p ?b3p (Nat.le_refl _) ?_)
  case b2p => rw [hz2]; omega
  case b3p => unfold maxLen; omega
  intro w0 hown0 hgrow0
  have HO := Lib.hid hown0
  have HG := Lib.hid hgrow0
  clear hown0 hgrow0
  go_wp2_with fail
  go_loopw [2, 8] (fun v i wr => LrnRel N L c w v i wr) (fun _ i _ => (intOf i + 1).toNat)
  case atStart => exact ⟨L, _, by omega, by simp, rfl, HO.out, fun k h1 h2 => absurd h1 (by omega), HG.out⟩
  case round =>
    obtain ⟨R, vs, hR, rfl, rfl, hown, hxs, hgr⟩ := hrel
    cases R with
    | zero =>
      have hs := Lib.hid (own_row (zs := rowZ N L c) (w := w) (wr := wr) (vs := vs) (g := w.heap.size) (by rw [rowZ_len]; unfold maxLen; omega) (by rw [rowZ_len]; exact hown) (fun j hj => by rw [rowZ_len] at hj; rw [rowZ_at _ _ _ hj]; exact hxs j hj (by omega)))
      have Hg := Lib.hid hgr
      clear hown hxs hgr
      go_wp2_with fail
      go_ret
      exact ⟨_, _, rfl, hs.out, Hg.out⟩
    | succ S =>
      have e1 : ((S + 1 : Nat) : Int) - 1 = (S : Int) := by omega
      rw [e1]
      have s0 : (0 : Int) ≤ (S : Int) := by omega
      have sL : (S : Int) < (L : Int) := by omega
      have hfr := World.ownsRow.frozenAt hown S
      have hce := World.ownsRow.cellAt hown S (by omega)
      have hxl := hown.1
      rw [List.getElem?_eq_getElem (by omega)] at hce
      obtain ⟨u, hce⟩ : ∃ u, wr.cell? ⟨w.heap.size, S, none⟩ = some u := ⟨_, hce⟩
      have hdg := dig_left N L c S (by omega)
      have hln := Lib.hid (left_next N L c S (by omega))
      have hst := Lib.hid (World.ownsRow.stored hown S (.int .i64 (digN N L c S : Nat)))
      have hg2 := Lib.hid (grownBy_row hgr hown (Nat.le_refl _) hst.out.2)
      have hxs2 : Hid (∀ k, k < L → S ≤ k → (vs.set S (.int .i64 (digN N L c S : Nat)))[k]? = some (.int .i64 (digN N L c k : Nat))) := fun k h1 h2 => by
        by_cases e : k = S
        · subst e; rw [List.getElem?_set_self (by omega)]
        · rw [List.getElem?_set_ne (by omega)]; exact hxs k h1 (by omega)
      have hD : c / (N + 1) ^ (L - (S + 1)) ≤ 1000 := Nat.le_trans (Nat.div_le_self _ _) hc
      clear hown hgr hxs
      generalize digN N L c S = G at *
      generalize c / (N + 1) ^ (L - (S + 1)) = D at *
      have q1 : (D : Int) % ((N : Int) + 1) = (G : Int) := by rw [hdg]; simp
      have q2 : (D : Int) / ((N : Int) + 1) = ((D / (N + 1) : Nat) : Int) := by simp
      have q3 : ¬ ((N : Int) + 1 = 0) := by omega
      have q5 : D / (N + 1) ≤ 1000 := Nat.le_trans (Nat.div_le_self _ _) hD
      clear hdg
      generalize D / (N + 1) = E at *
      go_wp2_with fail
      go_roundw
      case rel => exact ⟨S, _, by omega, by rw [hln.out], rfl, hst.out.1, hxs2.out, hg2.out⟩
      case measure => simp [intOf]

end Go.Proofs.Ythfikgaghinfbaa
