/-
  The model's PremisesOk, l7All, CountTrue, FollowsFrom. No condition.
-/
import Derived.Test.YtdofeahbgodopaaFolI
import Derived.Test.YtdofeahbgodopaaASpec
import Derived.Test.YtdofeahbgodopaaFSpecV
namespace Go.Proofs.Ytdofeahbgodopaa
open Go.RowKit

theorem premB_bad {ss : List ByteArray} {k : Nat} (hk : k < ss.length) (h : isF (bl (ss.getD k nilS)) = false) : premB (ss.map bl) = false := premB_f (prOf_at_none hk (isF_not h))
theorem premB_all {ss : List ByteArray} (h : ∀ k, k < ss.length → isF (bl (ss.getD k nilS)) = true) : premB (ss.map bl) = decide ((ss.length : Int) ≤ 3) := by
  by_cases hl : ss.length ≤ 3
  · obtain ⟨ts, ht⟩ := prOf_at_some hl fun k hk => isF_of (h k hk)
    rw [premB_t ht]
    exact (decide_eq_true (by omega)).symm
  · rw [premB_f (prOf_l (by simpa using hl))]
    exact (decide_eq_false (by omega)).symm

def SpRel (ss : List ByteArray) (w : World) (i : Value) (wr : World) : Prop := ∃ k : Nat, k ≤ ss.length ∧ i = .int .i64 k ∧ (∀ j, j < k → isF (bl (ss.getD j nilS)) = true) ∧ w = wr

set_option maxHeartbeats 1000000 in
theorem sprem_any (a : Option Addr) (cap : Nat) (ss : List ByteArray) (w : World) (h : StrsAt w a ss) :
    Calls Try.prog 15 #[.slice a ss.length cap] w fun e w' => e = .returned (.bool (premB (ss.map bl))) ∧ w = w' := by
  have hm := h.1
  unfold maxLen at hm
  have Hh := Lib.hid h
  clear h
  go_enter Try.func15, Try.ntmps15
  go_wp2
  go_loopw [3] (fun i wr => SpRel ss w i wr) (fun i _ => ss.length - (intOf i).toNat)
  case atStart => exact ⟨0, by omega, rfl, fun j hj => absurd hj (by omega), rfl⟩
  case round =>
    obtain ⟨k, hk, rfl, hT, rfl⟩ := hrel
    have HT := Lib.hid hT
    clear hT
    by_cases hlt : k < ss.length
    · rcases Hh.out.2 with h0 | ⟨b, off, rfl, hb, hc⟩
      · rw [h0] at hlt; simp at hlt
      have hck := hc k hlt
      have cf := sform_any (ss.getD k nilS) w
      clear hc hb
      cases hv : isF (bl (ss.getD k nilS))
      · have e := Lib.hid (premB_bad hlt hv)
        rw [hv] at cf
        clear hv
        generalize ss.getD k nilS = s at *
        go_wp2_with (go_at_call 40; refine cf.mono ?_; rintro e w1 ⟨rfl, rfl⟩)
        go_ret
        exact ⟨by rw [e.out]; rfl, rfl⟩
      · have hn : Hid (∀ j, j < k + 1 → isF (bl (ss.getD j nilS)) = true) := fun j hj => by
          by_cases e : j = k
          · rw [e]; exact hv
          · exact HT.out j (by omega)
        rw [hv] at cf
        clear hv
        generalize ss.getD k nilS = s at *
        go_wp2_with (go_at_call 40; refine cf.mono ?_; rintro e w1 ⟨rfl, rfl⟩)
        go_roundw
        case rel => exact ⟨k + 1, by omega, by go_num, hn.out, rfl⟩
        case measure => simp [intOf]; omega
    · obtain rfl : k = ss.length := by omega
      have e := Lib.hid (premB_all HT.out)
      go_wp2
      go_ret
      exact ⟨by rw [e.out]; rfl, rfl⟩

theorem truK_lt {N : Nat} (hN : 1 ≤ N ∧ N ≤ 6) {t : Tr} {k : Nat} (h : truK N t k = false) : atK N t k < N := by
  unfold truK at h
  have h1 := atK_le hN t k
  have h2 := beq_eq_false_iff_ne.1 h
  omega
theorem truK_eq {N : Nat} {t : Tr} {k : Nat} (h : truK N t k = true) : atK N t k = N := by
  unfold truK at h
  exact eq_of_beq h

def SaRel (N x : Nat) (ts : List Tr) (L : Nat) (w : World) (i : Value) (wr : World) : Prop := ∃ k : Nat, k ≤ L ∧ i = .int .i64 k ∧ (∀ j t, j < k → ts[j]? = some t → truK N t x = true) ∧ w = wr

set_option maxHeartbeats 1000000 in
theorem sall_any (N : Nat) (hN : 1 ≤ N ∧ N ≤ 6) (x : Nat) (a : Option Addr) (cap : Nat) (ss : List ByteArray) (ts : List Tr) (ho : prOf (ss.map bl) = some ts) (w : World) (h : StrsAt w a ss) :
    Calls Try.prog 48 #[.int .i64 N, .slice a ss.length cap, .int .i64 (tA N x), .int .i64 (tB N x), .int .i64 (tC N x)] w fun e w' => e = .returned (.bool (allK N ts x)) ∧ w = w' := by
  obtain ⟨hl3, hfs⟩ := prOf_of ho
  have hl : ts.length = ss.length := by have := fsOf_len hfs; simpa using this
  have hss : ss.length ≤ 3 := by simpa using hl3
  have Hh := Lib.hid h
  have Hf := Lib.hid hfs
  have Hl := Lib.hid hl
  clear h ho hfs hl3 hl
  go_enter Try.func48, Try.ntmps48
  go_wp2
  go_loopw [11] (fun i wr => SaRel N x ts ss.length w i wr) (fun i _ => ss.length - (intOf i).toNat)
  case atStart => exact ⟨0, by omega, rfl, fun j t hj => absurd hj (by omega), rfl⟩
  case round =>
    obtain ⟨k, hk, rfl, hT, rfl⟩ := hrel
    have HT := Lib.hid hT
    clear hT
    by_cases hlt : k < ss.length
    · rcases Hh.out.2 with h0 | ⟨b, off, rfl, hb, hc⟩
      · have h00 : ss.length = 0 := by rw [h0]; rfl
        omega
      have hck := hc k (by omega)
      obtain ⟨t, ht, hf⟩ := fsOf_at Hf.out k (by simp; omega)
      rw [show (ss.map bl).getD k [] = bl (ss.getD k nilS) by simp [List.getD_eq_getElem?_getD, show k < ss.length by omega]] at hf
      have et := tb_of hf
      have htl := (fOf_some hf).2
      rw [et] at hck
      have cv : ∀ w : World, Calls Try.prog 49 #[.int .i64 N, .string (tb t), .int .i64 (tA N x), .int .i64 (tB N x), .int .i64 (tC N x)] w fun e w' => e = .returned (.int .i64 (atK N t x)) ∧ w = w' := fun w => sv_all (tri_ok hN x) t (tb t) w rfl (by rw [tb_size]; omega)
      have Ht := Lib.hid ht
      clear hc hb hf et ht htl
      cases hv : truK N t x
      · have e := Lib.hid (allK_no Ht.out hv)
        have hat := truK_lt hN hv
        clear hv
        generalize atK N t x = v at *
        go_wp2_with (go_at_call 49; refine (cv _).mono ?_; rintro e w1 ⟨rfl, rfl⟩)
        go_ret
        exact ⟨by rw [e.out]; rfl, rfl⟩
      · have hn : Hid (∀ j u, j < k + 1 → ts[j]? = some u → truK N u x = true) := fun j u hj hu => by
          by_cases e : j = k
          · subst e; rw [Ht.out] at hu; cases hu; exact hv
          · exact HT.out j u (by omega) hu
        rw [truK_eq hv] at cv
        clear hv
        go_wp2_with (go_at_call 49; refine (cv _).mono ?_; rintro e w1 ⟨rfl, rfl⟩)
        go_roundw
        case rel => exact ⟨k + 1, by omega, by go_num, hn.out, rfl⟩
        case measure => simp [intOf]; omega
    · obtain rfl : k = ss.length := by omega
      have e : Hid (allK N ts x = true) := allK_yes fun j t hj => HT.out j t (by rw [← Hl.out]; exact hj)
      go_wp2
      go_ret
      exact ⟨by rw [e.out]; rfl, rfl⟩

end Go.Proofs.Ytdofeahbgodopaa
