/-
  The model's l11First.
-/
import Derived.Test.YthfikgaghinfbaaLSpec4
namespace Go.Proofs.Ythfikgaghinfbaa
open Go.RowKit

theorem code_tab : allG (fun N L c => codeN N (rowN N L c) == c) = true := by decide +kernel
theorem natR_rowZ (N L c : Nat) : natR (rowZ N L c) = rowN N L c := by
  unfold natR rowZ rowN
  rw [List.map_map]
  exact List.map_congr_left fun k _ => rfl
theorem rowZ_code {N L c : Nat} (hN : 1 ≤ N ∧ N ≤ 3) (hL : 1 ≤ L ∧ L ≤ 3) (hc : c < (N + 1) ^ L) : codeL N (rowZ N L c) = c := by
  unfold codeL
  rw [natR_rowZ]
  exact beq_iff_eq.1 (allG_at code_tab hN hL hc)
theorem rowZ_game {N L c : Nat} (hN : 1 ≤ N ∧ N ≤ 3) (hL : 1 ≤ L ∧ L ≤ 3) : gameB (N : Int) (rowZ N L c) = true := by
  refine gameB_mk (by omega) (by rw [rowZ_len]; exact hL) fun k hk => ?_
  rw [rowZ_len] at hk
  rw [rowZ_at N L c hk]
  unfold digN
  have := Nat.mod_lt (c / (N + 1) ^ (L - 1 - k)) (show 0 < N + 1 by omega)
  omega
def pw (N k : Nat) : Nat := (N + 1) ^ k
theorem pw_step (N k : Nat) : pw N (k + 1) = pw N k * (N + 1) := Nat.pow_succ ..
theorem pw_le {N k : Nat} (hN : N ≤ 3) (hk : k ≤ 3) : 1 ≤ pw N k ∧ pw N k ≤ 64 := by
  refine ⟨Nat.pow_pos (by omega), ?_⟩
  have : (N + 1) ^ k ≤ 4 ^ 3 := Nat.le_trans (Nat.pow_le_pow_left (by omega) k) (Nat.pow_le_pow_right (by omega) (by omega))
  exact this
/-- Which rows are solved, as the lists have it. -/
def svI (N L q c : Nat) : Int := if svB N L q c = true then 1 else 0
def svL (N L q c : Nat) : List Int := (List.range c).map (svI N L q)
theorem svL_len (N L q c : Nat) : (svL N L q c).length = c := by simp [svL]
theorem svL_step (N L q c : Nat) : svL N L q (c + 1) = svL N L q c ++ [svI N L q c] := by unfold svL; rw [List.range_succ, List.map_append]; rfl
theorem svL_at (N L q c : Nat) {k : Nat} (hk : k < c) : (svL N L q c).getD k 0 = svI N L q k := by
  unfold svL
  rw [List.getD_eq_getElem?_getD, List.getElem?_map, List.getElem?_range hk]
  rfl
theorem sv_first {N L c : Nat} (hN : 1 ≤ N ∧ N ≤ 3) (hL : 1 ≤ L ∧ L ≤ 3) (hc : c < (N + 1) ^ L) : svI N L 0 c = if leftL (rowZ N L c) < 2 then 1 else 0 := by
  have h := en_first (rowZ_game (c := c) hN hL)
  unfold enB at h
  rw [rowZ_len, rowZ_code hN hL hc] at h
  unfold svI
  rw [h]
  simp
def PwRel (N L : Nat) (w : World) (v i : Value) (wr : World) : Prop := ∃ k : Nat, k ≤ L ∧ v = .int .i64 (pw N k : Nat) ∧ i = .int .i64 k ∧ w = wr
def FstRel (N L q A : Nat) (w : World) (v i : Value) (wr : World) : Prop := ∃ c : Nat, c ≤ A ∧ i = .int .i64 c ∧ RowRel (svL N L q c) w.heap.size w v wr
def LfRel (row : List Int) (w : World) (v i : Value) (wr : World) : Prop := ∃ k : Nat, k ≤ row.length ∧ v = .int .i64 (leftK row k) ∧ i = .int .i64 k ∧ w = wr

set_option maxHeartbeats 4000000 in
theorem sfirst_any (N L : Nat) (hN : 1 ≤ N ∧ N ≤ 3) (hL : 1 ≤ L ∧ L ≤ 3) (w : World) :
    Calls Try.prog 60 #[.int .i64 N, .int .i64 L] w (IntsPost (svL N L 0 (pw N L)) w) := by
  obtain ⟨i0, hi, hz0, hz1, hz2⟩ := info_parts infoInt
  have HN := Lib.hid hN
  have HL := Lib.hid hL
  have n3 : (N : Int) ≤ 3 := by omega
  have n0 : (0 : Int) ≤ (N : Int) := by omega
  have l3 : (L : Int) ≤ 3 := by omega
  clear hN hL
  go_enter Try.func60, Try.ntmps60
  go_wp2_with fail
  go_loopw [5, 6] (fun v i wr => PwRel N L w v i wr) (fun _ i _ => L - (intOf i).toNat)
  case atStart => exact ⟨0, by omega, rfl, rfl, rfl⟩
  case round =>
    obtain ⟨k, hk, rfl, rfl, rfl⟩ := hrel
    by_cases hlt : k < L
    · have hst := Lib.hid (pw_step N k)
      have b1 := (pw_le (N := N) (k := k) HN.out.2 (by have := HL.out; omega)).2
      have b2 := (pw_le (N := N) (k := k + 1) HN.out.2 (by have := HL.out; omega)).2
      obtain ⟨P2, hP2⟩ : ∃ P, pw N (k + 1) = P := ⟨_, rfl⟩
      have hp2 := Lib.hid hP2
      have hp : ((pw N k : Nat) : Int) * ((N : Int) + 1) = (P2 : Int) := by rw [← hP2, hst.out]; push_cast; rfl
      rw [hP2] at b2
      clear hst hP2
      generalize pw N k = P1 at *
      go_wp2_with fail
      go_roundw
      case rel => exact ⟨k + 1, by omega, by rw [hp2.out], by go_num, rfl⟩
      case measure => simp [intOf]; omega
    · obtain rfl : k = L := by omega
      have b1 := (pw_le (N := N) (k := k) HN.out.2 HL.out.2).2
      obtain ⟨A, hA⟩ : ∃ A, pw N k = A := ⟨_, rfl⟩
      have HA := Lib.hid hA
      rw [hA] at b1 ⊢
      clear hA hk hlt
      go_wp2
      go_loopw [7, 8] (fun v i wr => FstRel N k 0 A w v i wr) (fun _ i _ => A - (intOf i).toNat)
      case atStart => exact ⟨0, by omega, rfl, _, 0, rfl, OwnI.made w, World.grownBy_alloc _ _ _⟩
      case round =>
        obtain ⟨c, hc, rfl, b, cb, rfl, hown, hgr⟩ := hrel
        have hlen : (svL N k 0 c).length ≤ 64 := by rw [svL_len]; omega
        by_cases hca : c < A
        · have HC : Hid (c < (N + 1) ^ k) := by unfold Hid; rw [← show pw N k = A from HA.out] at hca; exact hca
          have cr := slrow_any N k c HN.out HL.out (by omega) wr
          have c64 : (c : Int) < 64 := by omega
          have hcA : (c : Int) < (A : Int) := by omega
          have HO := Lib.hid hown
          have HG := Lib.hid hgr
          have HCA := Lib.hid hca
          clear hown hgr hca hc
          go_wp2_with fail
          refine cr.mono ?_
          rintro e w3 ⟨rb, rc, rfl, hR, g3⟩
          clear cr
          have HR := Lib.hid hR
          have HO3 := Lib.hid (HO.out.kept g3)
          have HG3 := Lib.hid (grownBy_trans HG.out g3)
          have hgame := rowZ_game (N := N) (L := k) (c := c) HN.out HL.out
          have hle := Lib.hid (left_le (fun j hj => ((gameB_of hgame).2.2 j hj).1))
          have hge := Lib.hid (gameB_of hgame).2.2
          have hfin := Lib.hid (sv_first HN.out HL.out HC.out)
          have hrl := Lib.hid (rowZ_len N k c)
          have hst := Lib.hid (svL_step N k 0 c)
          clear hR g3 hgame HO HG
          obtain ⟨row, hrow⟩ : ∃ row, rowZ N k c = row := ⟨_, rfl⟩
          rw [hrow] at HR hle hge hfin hrl
          clear hrow
          go_wp2_with fail
          go_loopw [10, 11] (fun v i wr => LfRel row w3 v i wr) (fun _ i _ => k - (intOf i).toNat)
          case atStart => exact ⟨0, by omega, rfl, rfl, rfl⟩
          case round =>
            obtain ⟨j, hj, rfl, rfl, rfl⟩ := hrel
            have hj3 : j ≤ 3 := by have := hrl.out; have := HL.out; omega
            by_cases hjl : j < k
            · have hjr : j < row.length := by rw [hrl.out]; exact hjl
              rcases HR.out.2 with h0 | ⟨bx, ox, rfl, hbx, hcx⟩
              · rw [h0] at hjr; simp at hjr
              have hc2 := hcx j hjr
              have b2 := hle.out j hj
              have hs : leftK row (j + 1) = leftK row j + (if row.getD j 0 < 1 then row.getD j 0 else 1) := rfl
              have v0 := (hge.out j hjr).1
              obtain ⟨b3, b4, _, _⟩ := b2
              have jk : (j : Int) < (k : Int) := by omega
              have HJR := Lib.hid hjr
              have hjk3 := Lib.hid hrl.out
              clear hcx hbx hjr
              have hln : (j : Int) < ((k : Nat) : Int) := jk
              generalize row.getD j 0 = q at *
              generalize leftK row j = s at *
              by_cases hq : q < 1
              · rw [if_pos hq] at hs
                have HS := Lib.hid hs
                clear hs
                go_wp2_with fail
                all_goals
                  go_roundw
                  case rel => exact ⟨j + 1, by have := HJR.out; omega, by first | (rw [HS.out]; done) | (rw [HS.out]; go_num), by go_num, rfl⟩
                  case measure => simp [intOf]; omega
              · rw [if_neg hq] at hs
                have HS := Lib.hid hs
                clear hs
                go_wp2_with fail
                all_goals
                  go_roundw
                  case rel => exact ⟨j + 1, by have := HJR.out; omega, by first | (rw [HS.out]; done) | (rw [HS.out]; refine congrArg (Value.int .i64) ?_; omega) | (rw [HS.out]; go_num), by go_num, rfl⟩
                  case measure => simp [intOf]; omega
            · have ej : j = row.length := by have := hrl.out; omega
              have hjk : ¬ ((j : Int) < (k : Int)) := by omega
              have b2 := hle.out j hj
              have hf2 : Hid (svI N k 0 c = if leftK row j < 2 then 1 else 0) := by unfold Hid; rw [hfin.out, ej]; rfl
              have hown := HO3.out
              have hgr := HG3.out
              have h03 : leftK row j = 0 ∨ leftK row j = 1 ∨ leftK row j = 2 ∨ leftK row j = 3 := by omega
              clear hfin hle hge HO3 HG3 HR b2 ej
              generalize leftK row j = s at *
              rcases h03 with rfl | rfl | rfl | rfl
              · go_wp2_with (at_builtin; refine wpList_append_own _ rfl _ _ 23 rfl w.heap.size 3 i0 (.int .i64 0) 1 8 Try.underlying23 hi hz0 hz1 hz2 rfl (by decide) _ _ _ rfl (World.ownsRow.alloc hown _) ⟨w3.heap.size, 0, none⟩ 1 1 [.int .i64 1] rfl rfl ?c1p ?c2p ?c3p ?c4p ?c5p ?_)
                case c2p => first | rfl | (intro u hu; simp at hu; subst hu; rfl)
                case c3p => unfold maxLen; omega
                case c4p => omega
                case c5p => have := hgr.size; simp; omega
                intro v' w4 hown' hgrow _
                have R := row_more hown hgr hown' (grow_box hgrow)
                have e : Hid (svL N k 0 c ++ [1] = svL N k 0 (c + 1)) := by unfold Hid; rw [hst.out, hf2.out]; rfl
                rw [e.out] at R
                clear hown hown' hgrow
                go_wp2
                go_roundw
                case rel => exact ⟨c + 1, HCA.out, by go_num, R⟩
                case measure => have := HCA.out; simp [intOf]; omega
              · go_wp2_with (at_builtin; refine wpList_append_own _ rfl _ _ 23 rfl w.heap.size 3 i0 (.int .i64 0) 1 8 Try.underlying23 hi hz0 hz1 hz2 rfl (by decide) _ _ _ rfl (World.ownsRow.alloc hown _) ⟨w3.heap.size, 0, none⟩ 1 1 [.int .i64 1] rfl rfl ?c1q ?c2q ?c3q ?c4q ?c5q ?_)
                case c2q => first | rfl | (intro u hu; simp at hu; subst hu; rfl)
                case c3q => unfold maxLen; omega
                case c4q => omega
                case c5q => have := hgr.size; simp; omega
                intro v' w4 hown' hgrow _
                have R := row_more hown hgr hown' (grow_box hgrow)
                have e : Hid (svL N k 0 c ++ [1] = svL N k 0 (c + 1)) := by unfold Hid; rw [hst.out, hf2.out]; rfl
                rw [e.out] at R
                clear hown hown' hgrow
                go_wp2
                go_roundw
                case rel => exact ⟨c + 1, HCA.out, by go_num, R⟩
                case measure => have := HCA.out; simp [intOf]; omega
              · go_wp2_with (at_builtin; refine wpList_append_own _ rfl _ _ 23 rfl w.heap.size 3 i0 (.int .i64 0) 1 8 Try.underlying23 hi hz0 hz1 hz2 rfl (by decide) _ _ _ rfl (World.ownsRow.alloc hown _) ⟨w3.heap.size, 0, none⟩ 1 1 [.int .i64 0] rfl rfl ?c1r ?c2r ?c3r ?c4r ?c5r ?_)
                case c2r => first | rfl | (intro u hu; simp at hu; subst hu; rfl)
                case c3r => unfold maxLen; omega
                case c4r => omega
                case c5r => have := hgr.size; simp; omega
                intro v' w4 hown' hgrow _
                have R := row_more hown hgr hown' (grow_box hgrow)
                have e : Hid (svL N k 0 c ++ [0] = svL N k 0 (c + 1)) := by unfold Hid; rw [hst.out, hf2.out]; rfl
                rw [e.out] at R
                clear hown hown' hgrow
                go_wp2
                go_roundw
                case rel => exact ⟨c + 1, HCA.out, by go_num, R⟩
                case measure => have := HCA.out; simp [intOf]; omega
              · go_wp2_with (at_builtin; refine wpList_append_own _ rfl _ _ 23 rfl w.heap.size 3 i0 (.int .i64 0) 1 8 Try.underlying23 hi hz0 hz1 hz2 rfl (by decide) _ _ _ rfl (World.ownsRow.alloc hown _) ⟨w3.heap.size, 0, none⟩ 1 1 [.int .i64 0] rfl rfl ?c1s ?c2s ?c3s ?c4s ?c5s ?_)
                case c2s => first | rfl | (intro u hu; simp at hu; subst hu; rfl)
                case c3s => unfold maxLen; omega
                case c4s => omega
                case c5s => have := hgr.size; simp; omega
                intro v' w4 hown' hgrow _
                have R := row_more hown hgr hown' (grow_box hgrow)
                have e : Hid (svL N k 0 c ++ [0] = svL N k 0 (c + 1)) := by unfold Hid; rw [hst.out, hf2.out]; rfl
                rw [e.out] at R
                clear hown hown' hgrow
                go_wp2
                go_roundw
                case rel => exact ⟨c + 1, HCA.out, by go_num, R⟩
                case measure => have := HCA.out; simp [intOf]; omega
        · obtain rfl : c = A := by omega
          clear hca
          go_wp2
          go_ret
          exact ⟨b, cb, by rw [HA.out]; rfl, by rw [HA.out]; exact hown, hgr⟩

end Go.Proofs.Ythfikgaghinfbaa
