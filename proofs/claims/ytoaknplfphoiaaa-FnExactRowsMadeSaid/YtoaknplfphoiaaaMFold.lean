/-
  impl's folded at what RowsMade hands it: the number of the row that tells at each place how true it is that the second value follows of the first one.
-/
import Derived.Test.YtoaknplfphoiaaaMNum
import Derived.Test.YtoaknplfphoiaaaSignMap
import Derived.Test.YtoaknplfphoiaaaFVal
namespace Go.Proofs.Ytoaknplfphoiaaa
open Go.RowKit

theorem folW_k {N a b : Nat} (hN : 1 ≤ N ∧ N ≤ 6) (ha : a ≤ N) (hb : b ≤ N) : folW N a b = ((folN N a b : Nat) : Int) := by
  rw [fol_raw (vokB_t (by omega)) (vokB_t (by omega))]
  unfold folN
  by_cases h : N - a + b ≤ N
  · rw [if_pos h, if_pos (by omega)]; omega
  · rw [if_neg h, if_neg (by omega)]
theorem wellR_fol {N : Nat} {x y : List Nat} (hx : wellR N x) (hy : wellR N y) : wellR N (folR N x y) := by
  refine ⟨folR_len hx.1 hy.1, fun d hd => ?_⟩
  obtain ⟨i, hi, rfl⟩ := List.mem_iff_getElem.1 hd
  have hl := folR_len hx.1 hy.1
  have h := folR_at (n := N) hx.1 hy.1 (v := i) (by omega)
  rw [List.getD_eq_getElem?_getD, List.getElem?_eq_getElem hi, Option.getD_some] at h
  rw [h]
  have := folN_le N (x.getD i 0) (y.getD i 0)
  omega
theorem well_at {N : Nat} {x : List Nat} (hx : wellR N x) {i : Nat} (hi : i ≤ N) : x.getD i 0 ≤ N := by
  have hl := hx.1
  have := hx.2 (x[i]'(by omega)) (List.getElem_mem _)
  rw [List.getD_eq_getElem?_getD, List.getElem?_eq_getElem (by omega), Option.getD_some]
  omega

set_option maxHeartbeats 1000000 in
theorem mk1_any (N C a b CB : Nat) (hN : 1 ≤ N ∧ N ≤ 4) (ha : a ≤ N) (hb : b ≤ N) (hm : C * (N + 1) = CB) (hCB : CB + folN N a b ≤ 100000) (hC : C ≤ 100000) (B1 B2 : Nat) (w : World)
    (h1 : w.cell? ⟨B1, 0, none⟩ = some (.int .i64 N)) (h2 : w.cell? ⟨B2, 0, none⟩ = some (.func (.func 32) #[] #[])) :
    Calls Try.prog 23 #[.int .i64 C, .int .i64 a, .int .i64 b, .pointer (some ⟨B1, 0, none⟩), .pointer (some ⟨B2, 0, none⟩)] w fun e w' => e = .returned (.int .i64 ((CB : Int) + ((folN N a b : Nat) : Int))) ∧ w.grownBy w' none := by
  have c1 := fun w => fol_lit N a b (twoB_mk (vokB_t (by omega)) (vokB_t (by omega))) w
  rw [folW_k (by omega) ha hb] at c1
  have c2 := fun w => withP_any N C (folN N a b) CB hm hCB hC hN.2 w
  clear hm
  generalize folN N a b = d at *
  have Q1 : ∀ (w : World) (m : Nat), Calls Try.prog 32 #[.int .i64 N, .int .i64 a, .int .i64 b] (w.drewN m) fun e w'' => e = .returned (.int .i64 d) ∧ ∃ m, w'' = w.drewN m := fun w m => Calls.quiet_of_same ((c1 _).mono fun _ _ p => ⟨p.1, p.2.symm⟩)
  have Q2 : ∀ (w : World) (m : Nat), Calls Try.prog 24 #[.int .i64 N, .int .i64 C, .int .i64 d] (w.drewN m) fun e w'' => e = .returned (.int .i64 ((CB : Int) + (d : Int))) ∧ ∃ m, w'' = w.drewN m := fun w m => Calls.quiet_of_same ((c2 _).mono fun _ _ p => ⟨p.1, p.2.symm⟩)
  clear c1 c2
  go_enter Try.func23, Try.ntmps23
  go_wp2_with fail
  go_quiet (first | (go_at_call 32; exact Q1 _ _) | (go_at_call 24; exact Q2 _ _))
  go_wp2
  go_ret
  exact ⟨rfl, grownBy_drewN (grownBy_refl _ _) _⟩

def FdRel (b : Nat) (r : List Nat) (w : World) (c i : Value) (wr : World) : Prop := ∃ k : Nat, k ≤ r.length ∧ i = .int .i64 k ∧ c = .int .i64 (codeR b (r.take k) : Int) ∧ w.grownBy wr none

set_option maxRecDepth 100000 in
set_option maxHeartbeats 2000000 in
theorem fold_any (N : Nat) (hN : 1 ≤ N ∧ N ≤ 4) (a b : Option Addr) (ca cb : Nat) (x y : List Nat) (hx : wellR N x) (hy : wellR N y) (B1 B2 : Nat) (w : World) (ix : IntsAt w a (rI x)) (iy : IntsAt w b (rI y))
    (h1 : w.cell? ⟨B1, 0, none⟩ = some (.int .i64 N)) (h2 : w.cell? ⟨B2, 0, none⟩ = some (.func (.func 32) #[] #[])) :
    Calls Try.prog 27 #[.slice a (N + 1) ca, .slice b (N + 1) cb, .int .i64 0, .func (.func 23) #[] #[.pointer (some ⟨B1, 0, none⟩), .pointer (some ⟨B2, 0, none⟩)]] w fun e w' => e = .returned (.int .i64 (codeR (N + 1) (folR N x y) : Int)) ∧ w.grownBy w' none := by
  have hf := wellR_fol hx hy
  have hl := hf.1
  have HF := Lib.hid hf
  have Hx := Lib.hid hx
  have Hy := Lib.hid hy
  have Ix := Lib.hid ix
  have Iy := Lib.hid iy
  have H1 := Lib.hid h1
  have H2 := Lib.hid h2
  have HL := Lib.hid hl
  clear hf hl hx hy ix iy h1 h2
  go_enter Try.func27, Try.ntmps27
  go_wp2_with fail
  go_loopw [9, 15] (fun s i wr => FdRel (N + 1) (folR N x y) w s i wr) (fun _ i _ => N + 1 - (RowKit.intOf i).toNat)
  case atStart => exact ⟨0, by omega, rfl, rfl, grownBy_refl _ _⟩
  case round =>
    obtain ⟨k, hk, rfl, rfl, hgr⟩ := hrel
    have hk2 : k ≤ N + 1 := by have := HL.out; omega
    have b1 := code_bound (by omega) HF.out hk2
    clear hk
    by_cases hlt : k ≤ N
    · have hkx : k < (rI x).length := by rw [rI_len]; have := Hx.out.1; omega
      have hky : k < (rI y).length := by rw [rI_len]; have := Hy.out.1; omega
      rcases (Ix.out.grown hgr).2 with h0 | ⟨bx, ox, rfl, hbx, hcx⟩
      · rw [h0] at hkx; simp at hkx
      rcases (Iy.out.grown hgr).2 with h0 | ⟨by', oy, rfl, hby, hcy⟩
      · rw [h0] at hky; simp at hky
      have hc1 := hcx k hkx
      have hc2 := hcy k hky
      rw [rI_at] at hc1 hc2
      have i0 : (0 : Int) ≤ (k : Int) := by omega
      have i1 : (k : Int) < (N : Int) + 1 := by omega
      have b2 := code_bound (by omega) HF.out (k := k + 1) (by omega)
      have hnx : Hid (codeR (N + 1) ((folR N x y).take (k + 1)) = codeR (N + 1) ((folR N x y).take k) * (N + 1) + folN N (x.getD k 0) (y.getD k 0)) := by
        have := code_take (b := N + 1) (r := folR N x y) (k := k) (by have := HL.out; omega)
        rw [folR_at Hx.out.1 Hy.out.1 hlt] at this
        exact this
      have b3 : codeR (N + 1) ((folR N x y).take k) * (N + 1) + folN N (x.getD k 0) (y.getD k 0) ≤ 3125 := by rw [← hnx.out]; exact b2
      have cm := mk1_any N (codeR (N + 1) ((folR N x y).take k)) (x.getD k 0) (y.getD k 0) _ hN (well_at Hx.out hlt) (well_at Hy.out hlt) rfl (by omega) (by omega) B1 B2 wr (hgr.cell H1.out (by simp)) (hgr.cell H2.out (by simp))
      clear b2 hcx hcy hbx hby hkx hky
      generalize codeR (N + 1) ((folR N x y).take k) * (N + 1) = CB at *
      generalize codeR (N + 1) ((folR N x y).take k) = C at *
      generalize folN N (x.getD k 0) (y.getD k 0) = d at *
      generalize x.getD k 0 = p at *
      generalize y.getD k 0 = q at *
      go_wp2_with (go_at_call 23; refine cm.mono ?_; rintro e w2 ⟨rfl, g2⟩)
      go_roundw
      case rel => exact ⟨k + 1, by have := HL.out; omega, by go_num, by rw [hnx.out]; simp, grownBy_trans hgr g2⟩
      case measure => simp [RowKit.intOf]; omega
    · obtain rfl : k = N + 1 := by omega
      have he : Hid (codeR (N + 1) ((folR N x y).take (N + 1)) = codeR (N + 1) (folR N x y)) := by unfold Hid; rw [List.take_of_length_le (by have := HL.out; omega)]
      go_wp2_with fail
      go_ret
      exact ⟨by rw [← he.out]; rfl, hgr⟩

end Go.Proofs.Ytoaknplfphoiaaa
