/-
  impl's known, composed: a table that tells what one tells for what both others tell.
-/
import Derived.Test.YtbhfbpmfbknalaaTNo
import Derived.Deep.RegionHeld3
namespace Go.Proofs.Ytbhfbpmfbknalaa
open Go.RowKit

section
variable {P : Program} {ops : Array Oper} {Q : Exit → Act → World → Prop} {md : Region.Mode} {S : World → Prop}
theorem take_an (i d : Nat) {oi : Oper} {v : Value} {fuel : Nat} {listed : Array Bool} {a : Act} {w : World} (hi : ops[i]? = some oi) (hd : oi.dst = some d) (hs : Region.noSelect ops = true) (hf : Region.free md ops listed i = true) (hr : (Region.ready md ops listed).contains i = true)
    (hQ : ∀ c a w, Q (.panic c) (a.put (some d) v) w → Q (.panic c) a w) (hw : Region.wanted oi (yielded ops a.tmps) = true) (hy : ∀ w, S w → (execOp a.eval oi).run P w = .ok (.value v) w) (hS : S w) (h : wpAnyH P md ops Q S fuel (listed.setIfInBounds i true) (a.put (some d) v) w) : wpAnyH P md ops Q S (fuel + 1) listed a w :=
  wpAnyH_take hi hs hf hr (by rw [hd]; exact hQ) (Or.inl ⟨hw, hy⟩) hS (by rw [hd]; exact h)
theorem load_an (i d : Nat) {oi : Oper} {v : Value} {fuel : Nat} {listed : Array Bool} {a : Act} {w : World} (hi : ops[i]? = some oi) (hd : oi.dst = some d) (hs : Region.noSelect ops = true) (hf : Region.free md ops listed i = true) (hr : (Region.ready md ops listed).contains i = true)
    (hQ : ∀ c a w, Q (.panic c) (a.put (some d) v) w → Q (.panic c) a w) (hy : YieldsIf P ops S oi v a) (hS : S w) (h : wpAnyH P md ops Q S fuel (listed.setIfInBounds i true) (a.put (some d) v) w) : wpAnyH P md ops Q S (fuel + 1) listed a w :=
  wpAnyH_take hi hs hf hr (by rw [hd]; exact hQ) hy hS (by rw [hd]; exact h)
end

def ok3 (f : Nat → Int) : Prop := ∀ k, k < 9 → 0 ≤ f k ∧ f k ≤ 2
def putF (t u v : Nat → Int) (k : Nat) : Int := t (3 * u k + v k).toNat
theorem putF_ok {t u v : Nat → Int} (ht : ok3 t) (hu : ok3 u) (hv : ok3 v) : ok3 (putF t u v) := fun k hk => by
  have := hu k hk
  have := hv k hk
  exact ht _ (by omega)

theorem at_int (f : Nat → Int) (p q : Int) (hp : 0 ≤ p ∧ p ≤ 2) (hq : 0 ≤ q ∧ q ≤ 2) (w : World) :
    Calls Try.prog 49 #[.agg (v9 f).toArray, .int .i64 p, .int .i64 q] w fun e w' => e = .returned (.int .i64 (f (3 * p + q).toNat)) ∧ w.grownBy w' none := by
  obtain ⟨P, rfl⟩ := Int.eq_ofNat_of_zero_le hp.1
  obtain ⟨Q, rfl⟩ := Int.eq_ofNat_of_zero_le hq.1
  have := at_any f P Q (by omega) (by omega) w
  rw [show (3 * (P : Int) + (Q : Int)).toNat = 3 * P + Q by omega]
  exact this

theorem Blk9.range {w : World} {B : Nat} {f : Nat → Int} (h : Blk9 w B f) : w.rangeAt B 0 (v9 f) := fun j v hv => by
  obtain ⟨hj, rfl⟩ := v9_at f hv
  rw [Nat.zero_add]
  exact h.cell hj
theorem range_grown {w w' : World} {B : Nat} {cs : List Value} (h : w.rangeAt B 0 cs) (g : w.grownBy w' none) : w'.rangeAt B 0 cs := fun j v hv => g.cell (h j v hv) (by simp)
theorem held_r3 {w0 w1 w2 : World} {a b c : Nat} {x y z : List Value} (h : w1.rangeAt a 0 x ∧ w1.rangeAt b 0 y ∧ w1.rangeAt c 0 z ∧ w0.grownBy w1 none) (g : w1.grownBy w2 none) : w2.rangeAt a 0 x ∧ w2.rangeAt b 0 y ∧ w2.rangeAt c 0 z ∧ w0.grownBy w2 none :=
  ⟨range_grown h.1 g, range_grown h.2.1 g, range_grown h.2.2.1 g, grownBy_trans h.2.2.2 g⟩
theorem range_drew {w : World} {B : Nat} {cs : List Value} (h : w.rangeAt B 0 cs) : w.drew.rangeAt B 0 cs := fun j v hv => h j v hv

set_option maxHeartbeats 4000000 in
theorem com1_any (t u v : Nat → Int) (p q : Int) (hp : 0 ≤ p ∧ p ≤ 2) (hq : 0 ≤ q ∧ q ≤ 2) (hu : 0 ≤ u (3 * p + q).toNat ∧ u (3 * p + q).toNat ≤ 2) (hv : 0 ≤ v (3 * p + q).toNat ∧ v (3 * p + q).toNat ≤ 2) (T U V : Nat) (w : World) (bT : Blk9 w T t) (bU : Blk9 w U u) (bV : Blk9 w V v) :
    Calls Try.prog 79 #[.int .i64 p, .int .i64 q, .pointer (some ⟨T, 0, none⟩), .pointer (some ⟨U, 0, none⟩), .pointer (some ⟨V, 0, none⟩)] w fun e w' => e = .returned (.int .i64 (putF t u v (3 * p + q).toNat)) ∧ w.grownBy w' none := by
  have cu : ∀ w : World, Calls Try.prog 49 #[.agg (v9 u).toArray, .int .i64 p, .int .i64 q] w fun e w' => e = .returned (.int .i64 (u (3 * p + q).toNat)) ∧ w.grownBy w' none := at_int u p q hp hq
  have cv : ∀ w : World, Calls Try.prog 49 #[.agg (v9 v).toArray, .int .i64 p, .int .i64 q] w fun e w' => e = .returned (.int .i64 (v (3 * p + q).toNat)) ∧ w.grownBy w' none := at_int v p q hp hq
  have ct : ∀ w : World, Calls Try.prog 49 #[.agg (v9 t).toArray, .int .i64 (u (3 * p + q).toNat), .int .i64 (v (3 * p + q).toNat)] w fun e w' => e = .returned (.int .i64 (putF t u v (3 * p + q).toNat)) ∧ w.grownBy w' none := at_int t _ _ hu hv
  generalize putF t u v (3 * p + q).toNat = R at *
  generalize u (3 * p + q).toNat = X at *
  generalize v (3 * p + q).toNat = Y at *
  have hb : w.drew.rangeAt T 0 (v9 t) ∧ w.drew.rangeAt U 0 (v9 u) ∧ w.drew.rangeAt V 0 (v9 v) ∧ w.grownBy w.drew none := ⟨range_drew bT.range, range_drew bU.range, range_drew bV.range, grownBy_drew (grownBy_refl _ _)⟩
  have hu9 := Try.underlying59
  clear bT bU bV hu hv hp hq
  go_enter Try.func79, Try.ntmps79
  go_wp2_with fail
  refine wp_region_noPanic ?_
  refine wp_region_held_drew (S := (fun w' => w'.rangeAt T 0 (v9 t) ∧ w'.rangeAt U 0 (v9 u) ∧ w'.rangeAt V 0 (v9 v) ∧ w.grownBy w' none)) (by kernel_rfl) hb (fun hH => ?_)
  refine load_an 0 8 rfl rfl (by kernel_rfl) (by kernel_rfl) (by kernel_rfl) (fun _ _ _ h => h) (yieldsIf_load_mid (by rfl) _ _ rfl _ _ rfl (v9 t) _ (fun w h => h.1) hu9 rfl info9) hH ?_
  simp only [Act.put, List.setIfInBounds_toArray, List.set_cons_zero, List.set_cons_succ]
  refine load_an 1 9 rfl rfl (by kernel_rfl) (by kernel_rfl) (by kernel_rfl) (fun _ _ _ h => h) (yieldsIf_load_mid (by rfl) _ _ rfl _ _ rfl (v9 u) _ (fun w h => h.2.1) hu9 rfl info9) hH ?_
  simp only [Act.put, List.setIfInBounds_toArray, List.set_cons_zero, List.set_cons_succ]
  refine take_an 2 10 (v := ?v1) rfl rfl (by kernel_rfl) (by kernel_rfl) (by kernel_rfl) (fun _ _ _ h => h) (by rfl) ?y1 hH ?r1
  case y1 => (intro w _; go_simp; try with_reducible rfl)
  simp only [Act.put, List.setIfInBounds_toArray, List.set_cons_zero, List.set_cons_succ]
  refine take_an 3 11 (v := ?v2) rfl rfl (by kernel_rfl) (by kernel_rfl) (by kernel_rfl) (fun _ _ _ h => h) (by rfl) ?y2 hH ?r2
  case y2 => (intro w _; go_simp; try with_reducible rfl)
  simp only [Act.put, List.setIfInBounds_toArray, List.set_cons_zero, List.set_cons_succ]
  refine load_an 5 13 rfl rfl (by kernel_rfl) (by kernel_rfl) (by kernel_rfl) (fun _ _ _ h => h) (yieldsIf_load_mid (by rfl) _ _ rfl _ _ rfl (v9 v) _ (fun w h => h.2.2.1) hu9 rfl info9) hH ?_
  simp only [Act.put, List.setIfInBounds_toArray, List.set_cons_zero, List.set_cons_succ]
  refine take_an 6 14 (v := ?v3) rfl rfl (by kernel_rfl) (by kernel_rfl) (by kernel_rfl) (fun _ _ _ h => h) (by rfl) ?y3 hH ?r3
  case y3 => (intro w _; go_simp; try with_reducible rfl)
  simp only [Act.put, List.setIfInBounds_toArray, List.set_cons_zero, List.set_cons_succ]
  refine take_an 7 15 (v := ?v4) rfl rfl (by kernel_rfl) (by kernel_rfl) (by kernel_rfl) (fun _ _ _ h => h) (by rfl) ?y4 hH ?r4
  case y4 => (intro w _; go_simp; try with_reducible rfl)
  simp only [Act.put, List.setIfInBounds_toArray, List.set_cons_zero, List.set_cons_succ]
  refine wpAnyH_ready (rs := [4]) (by kernel_rfl) (by simp) ?_
  refine AllReadyH.cons rfl (fun K hK => ?_) AllReadyH.nil
  go_simp
  (with_reducible refine (cu _).mono ?_); rintro e wgx ⟨rfl, gx⟩
  go_wp2_with fail
  refine hK.out _ _ (held_r3 hH gx) (fun h1 => ?_)
  clear hK K
  try simp only [Act.put, List.setIfInBounds_toArray, List.set_cons_zero, List.set_cons_succ]
  refine wpAnyH_ready (rs := [8]) (by kernel_rfl) (by simp) ?_
  refine AllReadyH.cons rfl (fun K hK => ?_) AllReadyH.nil
  go_simp
  (with_reducible refine (cv _).mono ?_); rintro e wgy ⟨rfl, gy⟩
  go_wp2_with fail
  refine hK.out _ _ (held_r3 h1 gy) (fun h2 => ?_)
  clear hK K
  try simp only [Act.put, List.setIfInBounds_toArray, List.set_cons_zero, List.set_cons_succ]
  refine wpAnyH_ready (rs := [9]) (by kernel_rfl) (by simp) ?_
  refine AllReadyH.cons rfl (fun K hK => ?_) AllReadyH.nil
  go_simp
  (with_reducible refine (ct _).mono ?_); rintro e wgz ⟨rfl, gz⟩
  go_wp2_with fail
  refine hK.out _ _ (held_r3 h2 gz) (fun h3 => ?_)
  clear hK K
  try simp only [Act.put, List.setIfInBounds_toArray, List.set_cons_zero, List.set_cons_succ]
  refine take_an 10 7 (v := ?v5) rfl rfl (by kernel_rfl) (by kernel_rfl) (by kernel_rfl) (fun _ _ _ h => h) (by rfl) ?y5 h3 ?r5
  case y5 => (intro w _; go_simp; try with_reducible rfl)
  simp only [Act.put, List.setIfInBounds_toArray, List.set_cons_zero, List.set_cons_succ]
  refine wpAnyH_done (by kernel_rfl) ?_ _
  refine NoPanic.normal ?_
  go_wp2_with fail
  go_ret
  exact ⟨rfl, h3.2.2.2⟩

theorem known_any (v p : Int) (w : World) :
    Calls Try.prog 77 #[.int .i64 v, .int .i64 p] w fun e w' => e = .returned (.int .i64 (if v = 1 then p else v)) ∧ w = w' := by
  by_cases h : v = 1
  · rw [if_pos h]
    have h1 : (v == 1) = true := by simpa using h
    clear h
    go_enter Try.func77, Try.ntmps77
    go_wp2_with fail
    go_ret
    exact ⟨rfl, rfl⟩
  · rw [if_neg h]
    have h1 : (v == 1) = false := by simpa using h
    clear h
    go_enter Try.func77, Try.ntmps77
    go_wp2_with fail
    go_ret
    exact ⟨rfl, rfl⟩

end Go.Proofs.Ytbhfbpmfbknalaa
