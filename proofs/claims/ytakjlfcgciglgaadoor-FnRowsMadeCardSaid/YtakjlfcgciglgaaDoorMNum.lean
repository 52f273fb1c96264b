/-
  impl's withPlace, ascendingNumber, rowOfNumber: rows as numbers. Chains of 1 to 4 steps.
-/
import Derived.Test.YtakjlfcgciglgaaDoorMKey
import Derived.Test.YtakjlfcgciglgaaDoorMRow
namespace Go.Proofs.YtakjlfcgciglgaaDoor
open Go.RowKit

theorem digs_at {b : Nat} : ∀ k c i, i < k → (digs b k c).getD i 0 = c / b ^ (k - 1 - i) % b := by
  intro k
  induction k with
  | zero => intro c i h; omega
  | succ k ih =>
    intro c i h
    show (digs b k (c / b) ++ [c % b]).getD i 0 = _
    by_cases e : i < k
    · rw [List.getD_eq_getElem?_getD, List.getElem?_append_left (by rw [digs_len]; exact e), ← List.getD_eq_getElem?_getD, ih (c / b) i e, Nat.div_div_eq_div_mul]
      congr 2
      rw [show k + 1 - 1 - i = (k - 1 - i) + 1 by omega, Nat.pow_succ, Nat.mul_comm]
    · obtain rfl : i = k := by omega
      rw [List.getD_eq_getElem?_getD, List.getElem?_append_right (by rw [digs_len]; exact Nat.le_refl _), digs_len, Nat.sub_self]
      simp

theorem withP_any (N C d CB : Nat) (hm : C * (N + 1) = CB) (hb : CB + d ≤ 100000) (_hC : C ≤ 100000) (hN : N ≤ 4) (w : World) :
    Calls Tryd.prog 16 #[.int .i64 N, .int .i64 C, .int .i64 d] w fun e w' => e = .returned (.int .i64 ((CB : Int) + (d : Int))) ∧ w = w' := by
  have hmul : (C : Int) * ((N : Int) + 1) = (CB : Int) := by rw [← hm]; simp
  go_enter Tryd.func16, Tryd.ntmps16
  go_wp2_with fail
  go_ret
  exact ⟨rfl, rfl⟩

theorem own_dig (N : Nat) {k : Nat} (h : k ≤ N) : (ownR N).getD k 0 = k := by unfold ownR; rw [List.getD_eq_getElem?_getD, List.getElem?_range (by omega)]; rfl

set_option maxRecDepth 100000 in
set_option maxHeartbeats 2000000 in
theorem asc_any (N : Nat) (hN : 1 ≤ N ∧ N ≤ 4) (w : World) :
    Calls Tryd.prog 17 #[.int .i64 N] w fun e w' => e = .returned (.int .i64 (codeR (N + 1) (ownR N) : Int)) ∧ w = w' := by
  have hl : (ownR N).length = N + 1 := by simp [ownR]
  have HR := Lib.hid (say_well (say_own N))
  have HL := Lib.hid hl
  clear hl
  go_enter Tryd.func17, Tryd.ntmps17
  go_wp2_with fail
  go_loopw [3, 7] (fun c i wr => CdRel (N + 1) (ownR N) w c i wr) (fun _ i _ => N + 1 - (RowKit.intOf i).toNat)
  case atStart => exact ⟨0, by omega, rfl, rfl, rfl⟩
  case round =>
    obtain ⟨k, hk, rfl, rfl, rfl⟩ := hrel
    have hk2 : k ≤ N + 1 := by have := HL.out; omega
    have b1 := code_bound (by omega) HR.out hk2
    clear hk
    by_cases hlt : k ≤ N
    · have b2 := code_bound (by omega) HR.out (k := k + 1) (by omega)
      have hnx : Hid (codeR (N + 1) ((ownR N).take (k + 1)) = codeR (N + 1) ((ownR N).take k) * (N + 1) + k) := by
        have := code_take (b := N + 1) (r := ownR N) (k := k) (by have := HL.out; omega)
        rw [own_dig N hlt] at this
        exact this
      have b3 : codeR (N + 1) ((ownR N).take k) * (N + 1) + k ≤ 3125 := by rw [← hnx.out]; exact b2
      have cw := fun w => withP_any N (codeR (N + 1) ((ownR N).take k)) k _ rfl (by omega) (by omega) (by omega) w
      clear b2
      generalize codeR (N + 1) ((ownR N).take k) * (N + 1) = CB at *
      generalize codeR (N + 1) ((ownR N).take k) = C at *
      go_wp2_with (go_at_call 16; refine (cw _).mono ?_; rintro e w' ⟨rfl, rfl⟩)
      go_roundw
      case rel => exact ⟨k + 1, by have := HL.out; omega, by go_num, by rw [hnx.out]; simp, rfl⟩
      case measure => simp [RowKit.intOf]; omega
    · obtain rfl : k = N + 1 := by omega
      have he : Hid (codeR (N + 1) ((ownR N).take (N + 1)) = codeR (N + 1) (ownR N)) := by unfold Hid; rw [List.take_of_length_le (by have := HL.out; omega)]
      go_wp2_with fail
      go_ret
      exact ⟨by rw [← he.out]; rfl, rfl⟩

theorem vals_eq {xs : List Int} {vs : List Value} (hl : vs.length = xs.length) (h : ∀ j, j < xs.length → vs[j]? = some (.int .i64 (xs.getD j 0))) : vs = xs.map (Value.int .i64) := by
  apply List.ext_getElem (by simp [hl])
  intro i h1 h2
  have := h i (by omega)
  rw [List.getElem?_eq_getElem h1] at this
  have e := Option.some.inj this
  rw [e]
  simp only [List.getElem_map]
  rw [List.getD_eq_getElem?_getD, List.getElem?_eq_getElem (by omega), Option.getD_some]

def RnRel (N C g : Nat) (w : World) (num pl : Value) (wr : World) : Prop :=
  ∃ (m : Nat) (vs : List Value), ((∃ p : Nat, p + m = N ∧ pl = .int .i64 p) ∨ (m = N + 1 ∧ pl = .int .i64 (-1))) ∧ num = .int .i64 ((C / (N + 1) ^ m : Nat) : Int) ∧
    wr.ownsRow w.heap.size 3 1 (.slice (some ⟨g, 0, none⟩) (N + 1) (N + 1)) (N + 1) vs ∧ (∀ j, j ≤ N → N < j + m → vs[j]? = some (.int .i64 (((rowC N C).getD j 0 : Nat) : Int))) ∧ w.grownBy wr none

set_option maxRecDepth 100000 in
set_option maxHeartbeats 4000000 in
theorem rowOf_any (N C : Nat) (hN : 1 ≤ N ∧ N ≤ 4) (hC : C ≤ 100000) (w : World) :
    Calls Tryd.prog 36 #[.int .i64 N, .int .i64 ((N : Int) + 1), .int .i64 C] w fun e w' => e = .returned (.slice (some ⟨w.heap.size, 0, none⟩) (N + 1) (N + 1)) ∧ RowV w' w.heap.size N (.slice (some ⟨w.heap.size, 0, none⟩) (N + 1) (N + 1)) (rowC N C) ∧ w.grownBy w' none := by
  obtain ⟨i0, hi, hz0, hz1, hz2⟩ := info_parts infoInt
  go_enter Tryd.func36, Tryd.ntmps36
  go_wp2_with (at_make; refine wpList_make_full _ rfl _ _ 29 rfl w.heap.size 3 i0 (.int .i64 0) 1 Tryd.underlying29 hi hz0 hz1 .i64 .i64 _ _ (N + 1) rfl rfl rfl rfl ?b2 ?b3 (Nat.le_refl _) ?_)
  case b2 => rw [hz2]; omega
  case b3 => unfold maxLen; omega
  intro w0 hown0 hgrow0
  go_wp2_with fail
  go_loopw [2, 8] (fun num pl wr => RnRel N C w.heap.size w num pl wr) (fun _ pl _ => (RowKit.intOf pl + 1).toNat)
  case atStart => exact ⟨0, _, .inl ⟨N, rfl, rfl⟩, by simp, hown0, fun j h1 h2 => by omega, hgrow0⟩
  case round =>
    obtain ⟨m, vs, hpl, rfl, hown, hvs, hgr⟩ := hrel
    rcases hpl with ⟨p, hp, rfl⟩ | ⟨rfl, rfl⟩
    · have hD : C / (N + 1) ^ m ≤ 100000 := Nat.le_trans (Nat.div_le_self _ _) hC
      have hnx : Hid (C / (N + 1) ^ m / (N + 1) = C / (N + 1) ^ (m + 1)) := by unfold Hid; rw [Nat.div_div_eq_div_mul, Nat.pow_succ]
      have hdg : Hid (C / (N + 1) ^ m % (N + 1) = (rowC N C).getD p 0) := by
        unfold Hid rowC
        rw [digs_at (N + 1) C p (by omega), show N + 1 - 1 - p = m by omega]
      have q1 : ((C / (N + 1) ^ m : Nat) : Int) % ((N : Int) + 1) = ((C / (N + 1) ^ m % (N + 1) : Nat) : Int) := by simp
      have q2 : ((C / (N + 1) ^ m : Nat) : Int) / ((N : Int) + 1) = ((C / (N + 1) ^ m / (N + 1) : Nat) : Int) := by simp
      have q3 : ¬ ((N : Int) + 1 = 0) := by omega
      have hfr := World.ownsRow.frozenAt hown p
      have hce := World.ownsRow.cellAt hown p (by omega)
      have hxl := hown.1
      rw [List.getElem?_eq_getElem (by omega)] at hce
      obtain ⟨u, hce⟩ : ∃ u, wr.cell? ⟨w.heap.size, p, none⟩ = some u := ⟨_, hce⟩
      have i0' : (0 : Int) ≤ (p : Int) := by omega
      have i1' : (p : Int) < (N : Int) + 1 := by omega
      have hD' : C / (N + 1) ^ m / (N + 1) ≤ 100000 := Nat.le_trans (Nat.div_le_self _ _) hD
      generalize C / (N + 1) ^ m / (N + 1) = D' at *
      generalize hdd : C / (N + 1) ^ m % (N + 1) = d at *
      have Hdd := Lib.hid hdd
      clear hdd
      have hst := Lib.hid (World.ownsRow.stored hown p (.int .i64 (d : Int)))
      have hg2 := Lib.hid (grownBy_row hgr hown (Nat.le_refl _) hst.out.2)
      have hvs2 : Hid (∀ j, j ≤ N → N < j + (m + 1) → (vs.set p (.int .i64 (d : Int)))[j]? = some (.int .i64 (((rowC N C).getD j 0 : Nat) : Int))) := fun j h1 h2 => by
        by_cases e : j = p
        · subst e; rw [List.getElem?_set_self (by omega), hdg.out]
        · rw [List.getElem?_set_ne (by omega)]; exact hvs j h1 (by omega)
      clear hown hgr hvs
      generalize C / (N + 1) ^ m = D at *
      go_wp2_with fail
      go_roundw
      case rel =>
        refine ⟨m + 1, _, ?_, by rw [hnx.out], hst.out.1, hvs2.out, hg2.out⟩
        by_cases h0 : p = 0
        · exact .inr ⟨by omega, by subst h0; rfl⟩
        · exact .inl ⟨p - 1, by omega, by go_num⟩
      case measure => simp [RowKit.intOf]
    · have hxl := hown.1
      have e := vals_eq (xs := rI (rowC N C)) (vs := vs) (by rw [rI_len]; unfold rowC; rw [digs_len]; omega) (fun j hj => by
        rw [rI_len] at hj
        have hj' : j < N + 1 := by unfold rowC at hj; rwa [digs_len] at hj
        rw [rI_at]
        exact hvs j (by omega) (by omega))
      subst e
      have HO : Hid (RowV wr w.heap.size N (.slice (some ⟨w.heap.size, 0, none⟩) (N + 1) (N + 1)) (rowC N C)) := ⟨by unfold rowC; rw [digs_len], _, _, rfl, hown⟩
      clear hown hvs
      go_wp2_with fail
      go_ret
      exact ⟨rfl, HO.out, hgr⟩

end Go.Proofs.YtakjlfcgciglgaaDoor
