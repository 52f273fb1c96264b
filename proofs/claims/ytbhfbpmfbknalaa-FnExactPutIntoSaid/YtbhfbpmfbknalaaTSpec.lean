/-
  The model's TableOk, TableAt, RegularOk. No condition but that a table which was handed over can be read.
-/
import Derived.Test.YtbhfbpmfbknalaaTri
import Derived.Test.YtbhfbpmfbknalaaRow
namespace Go.Proofs.Ytbhfbpmfbknalaa
open Go.RowKit

theorem less10_any (a b : Int) (w : World) :
    Calls Try.prog 58 #[.int .i64 a, .int .i64 b] w fun e w' => e = .returned (.bool (lsZ a b)) ∧ w = w' := by
  by_cases h1 : a = b
  · have hz : lsZ a b = true := by unfold lsZ; simp [h1]
    have h2 : ((a : Int) == b) = true := by simpa using h1
    rw [hz]
    clear h1 hz
    go_enter Try.func58, Try.ntmps58
    go_wp2_with fail
    go_ret
    exact ⟨rfl, rfl⟩
  · have h2 : ((a : Int) == b) = false := by simpa using h1
    by_cases h3 : a = 1
    · have hz : lsZ a b = true := by unfold lsZ; simp [h3]
      have h4 : ((a : Int) == 1) = true := by simpa using h3
      rw [hz]
      clear h1 h3 hz
      go_enter Try.func58, Try.ntmps58
      go_wp2_with fail
      go_ret
      exact ⟨rfl, rfl⟩
    · have hz : lsZ a b = false := by unfold lsZ; simp [h1, h3]
      have h4 : ((a : Int) == 1) = false := by simpa using h3
      rw [hz]
      clear h1 h3 hz
      go_enter Try.func58, Try.ntmps58
      go_wp2_with fail
      go_ret
      exact ⟨rfl, rfl⟩

theorem triB_no {l : List Int} {k : Nat} (hk : k < l.length) (h : inB (l.getD k 0) 0 2 = false) : triB l = false := by
  cases e : triB l
  · rfl
  · have hl := (triB_of e).1
    have := (triB_of e).2 k (by omega)
    rw [inB_t this] at h
    cases h
theorem triB_end {l : List Int} (h : ∀ j, j < l.length → inB (l.getD j 0) 0 2 = true) : triB l = (l.length == 9) := by
  by_cases hl : l.length = 9
  · rw [triB_mk hl fun k hk => inB_of (h k (by omega))]
    simp [hl]
  · have : (l.length == 9) = false := by simpa using hl
    rw [this]
    unfold triB
    rw [this]
    rfl

def TkRel (xs : List Int) (w1 : World) (i : Value) (wr : World) : Prop := ∃ k : Nat, k ≤ xs.length ∧ i = .int .i64 k ∧ (∀ j, j < k → inB (xs.getD j 0) 0 2 = true) ∧ w1 = wr

set_option maxHeartbeats 2000000 in
theorem stok_any (a : Option Addr) (cap : Nat) (xs : List Int) (w : World) (h : IntsAt w a xs) :
    Calls Try.prog 17 #[.agg #[.slice a xs.length cap]] w fun e w' => e = .returned (.bool (triB xs)) ∧ w.grownBy w' none := by
  have hm := h.1
  unfold maxLen at hm
  have g0 : w.grownBy (w.alloc (.cells #[.slice a xs.length cap] 25)) none := World.grownBy_alloc _ _ none
  have n0 : (w.alloc (.cells #[.slice a xs.length cap] 25)).cell? ⟨w.heap.size, 0, none⟩ = some (.slice a xs.length cap) := by simp
  have H1 := Lib.hid (h.grown g0)
  have G0 := Lib.hid g0
  clear h g0
  have ci := fun v w => in_any v 0 2 w
  go_enter Try.func17, Try.ntmps17
  go_wp2_with fail
  generalize w.alloc (.cells #[.slice a xs.length cap] 25) = w1 at *
  go_loopw [3] (fun i wr => TkRel xs w1 i wr) (fun i _ => xs.length - (intOf i).toNat)
  case atStart => exact ⟨0, by omega, rfl, fun j hj => absurd hj (by omega), rfl⟩
  case round =>
    obtain ⟨k, hk, rfl, hb, rfl⟩ := hrel
    have Hb := Lib.hid hb
    clear hb
    by_cases hlt : k < xs.length
    · rcases H1.out.2 with h0 | ⟨bx, ox, rfl, hbx, hcx⟩
      · rw [h0] at hlt; simp at hlt
      have hc := hcx k hlt
      have i0 : (0 : Int) ≤ (k : Int) := by omega
      have i1 : (k : Int) < (xs.length : Int) := by omega
      have hno := Lib.hid (fun h => triB_no hlt h)
      have hyes : Hid (inB (xs.getD k 0) 0 2 = true → ∀ j, j < k + 1 → inB (xs.getD j 0) 0 2 = true) := fun h j hj => by
        by_cases e : j = k
        · rw [e]; exact h
        · exact Hb.out j (by omega)
      clear hcx hbx
      have cq := fun w => ci (xs.getD k 0) w
      generalize xs.getD k 0 = q at *
      cases hq : inB q 0 2
      · rw [hq] at cq
        have hz := Lib.hid (hno.out hq)
        clear hq hno hyes
        go_wp2_with (go_at_call 46; refine (cq _).mono ?_; rintro e w' ⟨rfl, rfl⟩)
        go_ret
        exact ⟨by rw [hz.out]; rfl, G0.out⟩
      · rw [hq] at cq
        have hn := Lib.hid (hyes.out hq)
        clear hq hno hyes
        go_wp2_with (go_at_call 46; refine (cq _).mono ?_; rintro e w' ⟨rfl, rfl⟩)
        go_roundw
        case rel => exact ⟨k + 1, by omega, by go_num, hn.out, rfl⟩
        case measure => simp [intOf]; omega
    · obtain rfl : k = xs.length := by omega
      have he := Lib.hid (triB_end Hb.out)
      cases h9 : (xs.length == 9)
      · have h9I : ((xs.length : Int) == 9) = false := by rw [beq_eq_false_iff_ne] at h9 ⊢; omega
        rw [h9] at he
        clear h9
        go_wp2_with fail
        go_ret
        exact ⟨by rw [he.out]; rfl, G0.out⟩
      · have h9I : ((xs.length : Int) == 9) = true := by rw [beq_iff_eq] at h9 ⊢; omega
        rw [h9] at he
        clear h9
        go_wp2_with fail
        go_ret
        exact ⟨by rw [he.out]; rfl, G0.out⟩

/-- What a table tells. -/
def triAt (l : List Int) (a b : Int) : Int := if triB l && inB a 0 2 && inB b 0 2 then l.getD (3 * a + b).toNat 0 else -1

set_option maxHeartbeats 2000000 in
theorem stat_any (a : Option Addr) (cap : Nat) (xs : List Int) (p q : Int) (w : World) (h : IntsAt w a xs) :
    Calls Try.prog 21 #[.agg #[.slice a xs.length cap], .int .i64 p, .int .i64 q] w fun e w' => e = .returned (.int .i64 (triAt xs p q)) ∧ w.grownBy w' none := by
  have g0 : w.grownBy (w.alloc (.cells #[.slice a xs.length cap] 25)) none := World.grownBy_alloc _ _ none
  have n0 : (w.alloc (.cells #[.slice a xs.length cap] 25)).cell? ⟨w.heap.size, 0, none⟩ = some (.slice a xs.length cap) := by simp
  have ct := stok_any a cap xs _ (h.grown g0)
  have H1 := Lib.hid (h.grown g0)
  have G0 := Lib.hid g0
  have N0 := Lib.hid n0
  clear h g0
  unfold triAt
  cases ht : triB xs
  · rw [ht] at ct
    go_enter Try.func21, Try.ntmps21
    go_wp2_with (first
      | (go_at_call 17; refine ct.mono ?_; rintro e w2 ⟨rfl, g2⟩)
      | (go_at_call 46; refine (in_any _ 0 2 _).mono ?_; rintro e w' ⟨rfl, rfl⟩; (try rw [hp]); (try rw [hq])))
    go_ret
    exact ⟨rfl, grownBy_trans G0.out g2⟩
  · cases hp : inB p 0 2
    · rw [ht] at ct
      go_enter Try.func21, Try.ntmps21
      go_wp2_with (first
        | (go_at_call 17; refine ct.mono ?_; rintro e w2 ⟨rfl, g2⟩)
        | (go_at_call 46; refine (in_any _ 0 2 _).mono ?_; rintro e w' ⟨rfl, rfl⟩; (try rw [hp]); (try rw [hq])))
      go_ret
      exact ⟨rfl, grownBy_trans G0.out g2⟩
    · cases hq : inB q 0 2
      · rw [ht] at ct
        go_enter Try.func21, Try.ntmps21
        go_wp2_with (first
          | (go_at_call 17; refine ct.mono ?_; rintro e w2 ⟨rfl, g2⟩)
          | (go_at_call 46; refine (in_any _ 0 2 _).mono ?_; rintro e w' ⟨rfl, rfl⟩; (try rw [hp]); (try rw [hq])))
        go_ret
        exact ⟨rfl, grownBy_trans G0.out g2⟩
      · rw [ht] at ct
        have hp2 := inB_of hp
        have hq2 := inB_of hq
        obtain ⟨hl9, _⟩ := triB_of ht
        obtain ⟨P, rfl⟩ := Int.eq_ofNat_of_zero_le hp2.1
        obtain ⟨Q, rfl⟩ := Int.eq_ofNat_of_zero_le hq2.1
        have hle : (3 * (P : Int) + (Q : Int)).toNat = 3 * P + Q := by omega
        have hPQ : 3 * P + Q < 9 := by omega
        rw [hle]
        rcases H1.out.2 with h0 | ⟨bx, ox, rfl, hbx, hcx⟩
        · rw [h0] at hl9; simp at hl9
        have hc := hcx (3 * P + Q) (by omega)
        have hcg : Hid (∀ w', (w.alloc (.cells #[.slice (some ⟨bx, ox, none⟩) xs.length cap] 25)).grownBy w' none → w'.cell? ⟨bx, ox + (3 * P + Q), none⟩ = some (.int .i64 (xs.getD (3 * P + Q) 0)) ∧ w'.cell? ⟨w.heap.size, 0, none⟩ = some (.slice (some ⟨bx, ox, none⟩) xs.length cap)) := fun w' g => ⟨g.cell hc (by simp), g.cell N0.out (by simp)⟩
        have i0 : (0 : Int) ≤ 3 * (P : Int) + (Q : Int) := by omega
        have i1 : 3 * (P : Int) + (Q : Int) < (xs.length : Int) := by omega
        have e9 : ((3 * P + Q : Nat) : Int) = 3 * (P : Int) + (Q : Int) := by omega
        clear hcx hbx hc ht hl9
        generalize xs.getD (3 * P + Q) 0 = v at *
        go_enter Try.func21, Try.ntmps21
        go_wp2_with (first
          | (go_at_call 17; refine ct.mono ?_; rintro e w2 ⟨rfl, g2⟩; obtain ⟨m1, m2⟩ := hcg.out _ g2)
          | (go_at_call 46; refine (in_any _ 0 2 _).mono ?_; rintro e w' ⟨rfl, rfl⟩; (try rw [hp]); (try rw [hq])))
        go_ret
        exact ⟨rfl, grownBy_trans G0.out g2⟩

end Go.Proofs.Ytbhfbpmfbknalaa
