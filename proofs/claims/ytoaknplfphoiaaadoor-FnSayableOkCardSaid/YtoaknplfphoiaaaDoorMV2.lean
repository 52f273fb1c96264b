/-
  The walk of the law FnSayableOk, out of what the functions answer: two rows are appended to in one loop.
-/
import Derived.Test.YtoaknplfphoiaaaDoorNI
import Derived.Test.YtoaknplfphoiaaaDoorMDraw
import Derived.Maps.AppendAt
import Derived.Outline
namespace Go.Proofs.YtoaknplfphoiaaaDoor
open Go.RowKit

/-- Two slices that share no block. -/
def AP (u v : Value) : Prop := ∀ k, u.ownBlock = some k → v.ownBlock ≠ some k
theorem AP.symm {u v : Value} (h : AP u v) : AP v u := fun k h1 h2 => h k h2 h1
theorem AP.kept {u v : Value} (h : AP u v) : u.ownBlock = none ∨ u.ownBlock ≠ v.ownBlock := by
  cases e : u.ownBlock with
  | none => exact .inl rfl
  | some k => exact .inr fun q => h k e q.symm
theorem AP.put {w : World} {u u' v : Value} {b n : Nat} {e : TypeId} {xs : List Value} (h : AP u v) (ho : w.ownsRow b e 1 v n xs) (hat : u'.ownBlock = u.ownBlock ∨ u'.ownBlock = some w.heap.size) : AP u' v := fun k h1 h2 => by
  rcases hat with q | q
  · exact h k (q ▸ h1) h2
  · have := (World.ownsRow.lt ho k h2).2
    rw [q] at h1
    cases h1
    omega

theorem own_keptN {w w' : World} {base : Nat} {e : TypeId} {v : Value} {n : Nat} {xs : List Value} (ho : w.ownsRow base e 1 v n xs) (hg : w.grownBy w' none) : w'.ownsRow base e 1 v n xs := World.ownsRow.kept ho hg (by cases v.ownBlock <;> simp)
theorem cell_grownM {w1 w2 : World} {a : Addr} {x : Value} (h : w1.cell? a = some x) (g : w1.grownBy w2 none) : w2.cell? a = some x := g.cell h (by simp)
theorem heldM {w w1 w2 : World} {a : Addr} {x : Value} (h : w1.cell? a = some x ∧ w.grownBy w1 none) (g : w1.grownBy w2 none) : w2.cell? a = some x ∧ w.grownBy w2 none := ⟨cell_grownM h.1 g, grownBy_trans h.2 g⟩
theorem undrawM {a b : World} (h : a.drew.grownBy b none) : a.grownBy b none := ⟨h.os, h.tape, h.output, h.size, h.block⟩
theorem tz_heldM {w w1 : World} {a : Addr} {x : Value} (hT : TzAt w) (h : w1.cell? a = some x ∧ w.grownBy w1 none) : TzAt w1 := hT.grown h.2

theorem pow_wrapM {k : Nat} (h : k ≤ 6) : IntKind.i64.wrap ((2 : Int) ^ k) = 2 ^ k := by
  have : k = 0 ∨ k = 1 ∨ k = 2 ∨ k = 3 ∨ k = 4 ∨ k = 5 ∨ k = 6 := by omega
  rcases this with rfl | rfl | rfl | rfl | rfl | rfl | rfl <;> rfl
theorem pow_wrapN {k : Nat} (h : k ≤ 6) : wrap64 ((2 : Int) ^ k) = 2 ^ k := by
  have : k = 0 ∨ k = 1 ∨ k = 2 ∨ k = 3 ∨ k = 4 ∨ k = 5 ∨ k = 6 := by omega
  rcases this with rfl | rfl | rfl | rfl | rfl | rfl | rfl <;> decide +kernel
theorem shrM (S v : Nat) (h : bit S v = true) : (((S : Int) / 2 ^ v).tmod 2 == 0) = false := by
  have e : (S : Int) / 2 ^ v = ((S / 2 ^ v : Nat) : Int) := by rw [Int.natCast_ediv, Int.natCast_pow]; rfl
  unfold bit at h
  rw [beq_iff_eq] at h
  rw [e, beq_eq_false_iff_ne]
  generalize S / 2 ^ v = q at *
  rw [Int.tmod_eq_emod_of_nonneg (by omega)]
  omega
theorem made_bit {n v x : Nat} (hn : 1 ≤ n ∧ n ≤ 6) (hv : v ≤ n) (hx : x ≤ n) (h : x % Nat.gcd v n = 0) : bit (madeN n (2 ^ v)) x = true := by
  have k := made_gcd
  rw [List.all_eq_true] at k
  have k1 := k n (by simp; omega)
  rw [List.all_eq_true] at k1
  have k2 := k1 v (List.mem_range.2 (by omega))
  rw [List.all_eq_true] at k2
  have k3 := eq_of_beq (k2 x (List.mem_range.2 (by omega)))
  rw [k3, h]
  rfl

/-- The row of opposites, and the row that tells how true it is that the place follows. -/
def mkL (f : Nat → Nat) (k : Nat) : List Int := (List.range k).map fun v => (f v : Int)
theorem mkL_len (f : Nat → Nat) (k : Nat) : (mkL f k).length = k := by unfold mkL; simp
theorem mkL_next (f : Nat → Nat) (k : Nat) : mkL f (k + 1) = mkL f k ++ [(f k : Int)] := by unfold mkL; rw [List.range_succ, List.map_append]; rfl
theorem mkL_at (f : Nat → Nat) {k v : Nat} (h : v < k) : (mkL f k).getD v 0 = (f v : Int) := by unfold mkL; simp [List.getD_eq_getElem?_getD, h]
theorem mkL_say {N : Nat} (hN : 1 ≤ N ∧ N ≤ 6) {f : Nat → Nat} (h : ∀ v, v ≤ N → f v ≤ N ∧ f v % Nat.gcd v N = 0) : sayB N (mkL f (N + 1)) = true := by
  refine sayB_mk (by omega) (by rw [mkL_len]; omega) fun v hv => ?_
  rw [mkL_len] at hv
  obtain ⟨h1, h2⟩ := h v (by omega)
  unfold sayAt
  rw [mkL_at f hv, inB_t (by omega), Int.toNat_natCast, Bool.true_and, beq_iff_eq]
  omega
def opQ (N : Nat) (Q : Nat → Nat) (v : Nat) : Nat := N - Q v
def foQ (N : Nat) (Q : Nat → Nat) (v : Nat) : Nat := folN N (Q v) v
theorem opQ_ok {N : Nat} {Q : Nat → Nat} (h : ∀ v, v ≤ N → Q v ≤ N ∧ Q v % Nat.gcd v N = 0) : ∀ v, v ≤ N → opQ N Q v ≤ N ∧ opQ N Q v % Nat.gcd v N = 0 := fun v hv =>
  ⟨Nat.sub_le _ _, Nat.mod_eq_zero_of_dvd (Nat.dvd_sub (Nat.gcd_dvd_right v N) (Nat.dvd_of_mod_eq_zero (h v hv).2))⟩
theorem foQ_ok {N : Nat} {Q : Nat → Nat} (h : ∀ v, v ≤ N → Q v ≤ N ∧ Q v % Nat.gcd v N = 0) : ∀ v, v ≤ N → foQ N Q v ≤ N ∧ foQ N Q v % Nat.gcd v N = 0 := fun v hv =>
  ⟨folN_le _ _ _, Nat.mod_eq_zero_of_dvd (fol_dvd (Nat.gcd_dvd_right v N) (Nat.dvd_of_mod_eq_zero (h v hv).2) (Nat.gcd_dvd_left v N))⟩
theorem notW_q {N q : Nat} (hN : 1 ≤ N ∧ N ≤ 6) (hq : q ≤ N) : notW N q = ((N - q : Nat) : Int) := by rw [notW_t (vokB_t (by omega))]; omega
theorem folW_q {N q v : Nat} (hN : 1 ≤ N ∧ N ≤ 6) (hq : q ≤ N) (hv : v ≤ N) : folW N q v = ((folN N q v : Nat) : Int) := by
  rw [fol_raw (vokB_t (by omega)) (vokB_t (by omega))]
  unfold folN
  by_cases h : N - q + v ≤ N
  · rw [if_pos h, if_pos (by omega)]; omega
  · rw [if_neg h, if_neg (by omega)]

def SvRel (N : Nat) (Q : Nat → Nat) (w : World) (vn vf i : Value) (wr : World) : Prop :=
  ∃ k : Nat, k ≤ N + 1 ∧ i = .int .i64 k ∧ wr.ownsRow w.heap.size 3 1 vn k ((mkL (opQ N Q) k).map (Value.int .i64)) ∧ wr.ownsRow w.heap.size 3 1 vf k ((mkL (foQ N Q) k).map (Value.int .i64)) ∧ AP vn vf ∧ w.grownBy wr none

set_option maxRecDepth 100000 in
set_option maxHeartbeats 8000000 in
theorem FnSayableOk_of (H : SayC) (a0 : Option Addr) (len0 cap0 : Nat) (z0 : List Int) (w : World) (w0 : IsRow .u8 w a0 len0 cap0 z0) (hT : TzAt w) :
    Calls Tryd.prog 4 #[.slice a0 len0 cap0] w fun e w' => e = .returned (.bool true) ∧ Below w.heap.size w w' := by
  have HT := Lib.hid hT
  clear hT
  by_cases hl : (1048576 : Int) < (len0 : Int)
  · clear w0
    go_enter Tryd.func4, Tryd.ntmps4
    go_wp2_with fail
    go_ret
    exact ⟨rfl, Below.refl _ _⟩
  · obtain ⟨i0, hi, hz0, hz1, hz2⟩ := info_parts infoInt
    go_enter Tryd.func4, Tryd.ntmps4
    go_wp2_with fail
    refine (DrawSayableOk_any _ _ _ _ _ w0).mono ?_
    rintro e w1 ⟨n, xs, a, cap, rfl, n1, n2, hx8, hX, g1⟩
    clear w0
    have HX := Lib.hid hX
    have ci := fun (v : Bool) (hv : sayB n xs = v) => say_v H n a cap xs hv w1 (HT.out.grown g1) HX.out
    have cs := fun (v : Bool) (hv : sayB n xs = v) w1 (h : IntsAt w1 a xs) => (show Calls Tryd.prog 16 #[.int .i64 n, .slice a xs.length cap] w1 fun e w' => e = .returned (.bool v) ∧ w1.grownBy w' none by rw [← hv]; exact ssay_any n a cap xs w1 h)
    clear hX
    cases hs : sayB n xs
    · have c1 := ci false hs
      have c2 := cs false hs
      clear ci cs hs
      go_wp2_with fail
      refine c1.mono ?_
      rintro e w2 ⟨rfl, g2⟩
      clear c1
      have HX2 := Lib.hid (HX.out.grown g2)
      go_wp2_with fail
      refine (c2 _ HX2.out).mono ?_
      rintro e w3 ⟨rfl, g3⟩
      clear c2
      go_wp2_with (go_at_call 13; refine (alive_any _).mono ?_; rintro e w' ⟨rfl, rfl⟩)
      go_ret
      exact ⟨rfl, below_of (grownBy_trans g1 (grownBy_trans g2 g3))⟩
    · have c1 := ci true hs
      have c2 := cs true hs
      obtain ⟨hn, hlen, hat⟩ := sayB_of hs
      clear ci cs hs
      obtain ⟨N, rfl⟩ : ∃ N : Nat, n = N := ⟨n.toNat, by omega⟩
      have hN : 1 ≤ N ∧ N ≤ 6 := by omega
      have hlN : xs.length = N + 1 := by omega
      have hQ : Hid (∀ v, v ≤ N → xs.getD v 0 = ((xs.getD v 0).toNat : Int) ∧ (xs.getD v 0).toNat ≤ N ∧ (xs.getD v 0).toNat % Nat.gcd v N = 0) := fun v hv => by
        have h1 := hat v (by omega)
        unfold sayAt at h1
        rw [Bool.and_eq_true, beq_iff_eq, Int.toNat_natCast] at h1
        have h2 := inB_of h1.1
        refine ⟨by omega, by omega, ?_⟩
        have := h1.2
        have e : xs.getD v 0 = ((xs.getD v 0).toNat : Int) := by omega
        rw [e] at this
        omega
      obtain ⟨Q, hQd⟩ : ∃ Q : Nat → Nat, Q = fun v => (xs.getD v 0).toNat := ⟨_, rfl⟩
      have hq1 : Hid (∀ v, v ≤ N → xs.getD v 0 = (Q v : Int)) := fun v hv => by rw [hQd]; exact (hQ.out v hv).1
      have hq2 : Hid (∀ v, v ≤ N → Q v ≤ N ∧ Q v % Nat.gcd v N = 0) := fun v hv => by rw [hQd]; exact (hQ.out v hv).2
      have HL := Lib.hid hlN
      clear hQ hQd hat hlen hn hlN
      go_wp2_with fail
      refine c1.mono ?_
      rintro e w2 ⟨rfl, g2⟩
      clear c1
      have HX2 := Lib.hid (HX.out.grown g2)
      go_wp2_with fail
      refine (c2 _ HX2.out).mono ?_
      rintro e w3 ⟨rfl, g3⟩
      clear c2
      have HX3 := Lib.hid (HX2.out.grown g3)
      have hT3 := Lib.hid (HT.out.grown (grownBy_trans g1 (grownBy_trans g2 g3)))
      have G3 := Lib.hid (grownBy_trans g1 (grownBy_trans g2 g3))
      clear HX HX2 g1 g2 g3
      go_wp2_with fail
      go_loopw [6, 7, 8] (fun vn vf i wr => SvRel N Q w3 vn vf i wr) (fun _ _ i _ => N + 1 - (intOf i).toNat)
      case atStart =>
        have o1 := World.ownsRow_lit (e := 3) (size := 1) w3 #[] 0 (Nat.le_refl _) (by unfold maxLen; omega) rfl
        have o2 := World.ownsRow_lit (e := 3) (size := 1) (base := w3.heap.size) (w3.alloc (.cells #[] 3)) #[] 0 (by simp) (by unfold maxLen; omega) rfl
        exact ⟨0, by omega, rfl, World.ownsRow.alloc o1 _, by simpa [mkL] using o2, fun k h1 h2 => by simp [Value.ownBlock] at h1 h2; omega, grownBy_trans (World.grownBy_alloc w3 _ none) (World.grownBy_alloc _ _ none)⟩
      case round =>
        obtain ⟨k, hk, rfl, hon, hof, hap, hgr⟩ := hrel
        by_cases hlt : k ≤ N
        · have hkl : k < xs.length := by have := HL.out; omega
          rcases HX3.out.2 with h0 | ⟨bx, ox, rfl, hbx, hcx⟩
          · rw [h0] at hkl; simp at hkl
          have hc := hcx k hkl
          rw [hq1.out k hlt] at hc
          obtain ⟨hqN, hqd⟩ := hq2.out k hlt
          have i0' : (0 : Int) ≤ (k : Int) := by omega
          have i1' : (k : Int) < (xs.length : Int) := by omega
          have cn := fun w => not_v N (Q k) (notW_q hN hqN) w
          have cf := fun w => fol_v N (Q k) k (folW_q hN hqN hlt) w
          have cm := fun w (hT : TzAt w) => madeI_any N k hN hlt w hT
          have hbit := shrM _ _ (made_bit hN hlt hqN hqd)
          have Hc := Lib.hid hc
          have en : Hid ((mkL (opQ N Q) k).map (Value.int .i64) ++ [.int .i64 ((N - Q k : Nat) : Int)] = (mkL (opQ N Q) (k + 1)).map (Value.int .i64)) := by unfold Hid; rw [mkL_next]; simp [opQ]
          have ef : Hid ((mkL (foQ N Q) k).map (Value.int .i64) ++ [.int .i64 ((folN N (Q k) k : Nat) : Int)] = (mkL (foQ N Q) (k + 1)).map (Value.int .i64)) := by unfold Hid; rw [mkL_next]; simp [foQ]
          have n0 := cell_grownM hc hgr
          clear hcx hbx hc hqd
          generalize (mkL (opQ N Q) k).map (Value.int .i64) = ln at *
          generalize (mkL (foQ N Q) k).map (Value.int .i64) = lf at *
          generalize madeN N (2 ^ k) = M at *
          generalize ((N - Q k : Nat) : Int) = X at *
          generalize ((folN N (Q k) k : Nat) : Int) = Y at *
          generalize Q k = q at *
          go_wp2_with (first
            | (go_at_call 17; refine (cn _).mono ?_; rintro e w' ⟨rfl, rfl⟩)
            | (at_builtin; refine wpList_append_own_at _ rfl _ _ 25 rfl w3.heap.size 3 i0 (.int .i64 0) 1 8 Tryd.underlying25 hi hz0 hz1 hz2 rfl (by decide) _ k ln rfl (World.ownsRow.alloc hon _) ⟨wr.heap.size, 0, none⟩ 1 1 [.int .i64 X] rfl rfl ?a1 ?a2 ?a3 ?a4 ?a5 ?_))
          case a1 =>
            intro j u hj
            match j, hj with
            | 0, hj => simp at hj; subst hj; simp [Addr.add]
          case a2 => intro u hu; simp at hu; subst hu; rfl
          case a3 => unfold maxLen; omega
          case a4 => omega
          case a5 => have := hgr.size; simp; omega
          intro vn' w4 on4 gr4 _ hat4
          have hA := World.ownsRow.alloc hon (.cells #[.int .i64 X] 3)
          have gA := World.grownBy_alloc wr (.cells #[.int .i64 X] 3) none
          have of4 := World.ownsRow.kept (World.ownsRow.alloc hof (.cells #[.int .i64 X] 3)) gr4 hap.symm.kept
          have ap4 : AP vn' _ := AP.put hap (World.ownsRow.alloc hof (.cells #[.int .i64 X] 3)) (by simpa using hat4)
          have g4 := grownBy_row (grownBy_trans hgr gA) hA (Nat.le_refl _) gr4
          have n4 := cell_grownM Hc.out g4
          have Hn4 := Lib.hid on4
          have Hf4 := Lib.hid of4
          have Hp4 := Lib.hid ap4
          have Hg4 := Lib.hid g4
          clear hA gA hat4 gr4 on4 of4 ap4 g4 hon hof hap n0
          go_wp2_with (first
            | (go_at_call 18; refine (cf _).mono ?_; rintro e w5 ⟨rfl, g5⟩; have on5 := own_keptN Hn4.out g5; have of5 := own_keptN Hf4.out g5; have gg5 := grownBy_trans Hg4.out g5)
            | (at_builtin; refine wpList_append_own_at _ rfl _ _ 25 rfl w3.heap.size 3 i0 (.int .i64 0) 1 8 Tryd.underlying25 hi hz0 hz1 hz2 rfl (by decide) _ k lf rfl (World.ownsRow.alloc of5 _) ⟨w5.heap.size, 0, none⟩ 1 1 [.int .i64 Y] rfl rfl ?b1 ?b2 ?b3 ?b4 ?b5 ?_))
          case b1 =>
            intro j u hj
            match j, hj with
            | 0, hj => simp at hj; subst hj; simp [Addr.add]
          case b2 => intro u hu; simp at hu; subst hu; rfl
          case b3 => unfold maxLen; omega
          case b4 => omega
          case b5 => have := gg5.size; simp; omega
          intro vf' w6 of6 gr6 _ hat6
          have hA := World.ownsRow.alloc of5 (.cells #[.int .i64 Y] 3)
          have gA := World.grownBy_alloc w5 (.cells #[.int .i64 Y] 3) none
          have on6 := World.ownsRow.kept (World.ownsRow.alloc on5 (.cells #[.int .i64 Y] 3)) gr6 Hp4.out.kept
          have ap6 : AP vf' vn' := AP.put Hp4.out.symm (World.ownsRow.alloc on5 (.cells #[.int .i64 Y] 3)) (by simpa using hat6)
          have g6 := grownBy_row (grownBy_trans gg5 gA) hA (Nat.le_refl _) gr6
          have n6 := cell_grownM Hc.out g6
          have Hn6 := Lib.hid on6
          have Hf6 := Lib.hid of6
          have Hp6 := Lib.hid ap6
          have Hg6 := Lib.hid g6
          have hb0 : w6.drew.cell? ⟨bx, ox + k, none⟩ = some (.int .i64 (q : Int)) ∧ w3.grownBy w6.drew none := ⟨n6, grownBy_drew g6⟩
          have hsh1 : IntKind.i64.wrap ((2 : Int) ^ k) = 2 ^ k := pow_wrapM (by omega)
          have hsh2 : wrap64 ((2 : Int) ^ k) = 2 ^ k := pow_wrapN (by omega)
          have hsh3 : ¬ ((k : Int) < 0) := by omega
          have hsh4 : ¬ ((q : Int) < 0) := by omega
          clear hA gA hat6 gr6 on6 of6 ap6 g6 on5 of5 gg5 g5 n4 Hn4 Hf4 Hp4 Hg4
          go_wp2_with fail
          go_region_held3 (fun w' => w'.cell? ⟨bx, ox + k, none⟩ = some (.int .i64 (q : Int)) ∧ w3.grownBy w' none) (first | exact hb0 | exact heldM (by assumption) gx | assumption)
            (first
              | (go_at_call 19; (with_reducible refine (cm _ (tz_heldM hT3.out (by assumption))).mono ?_); rintro e wa ⟨rfl, gx⟩))
          all_goals
            go_wp2_with fail
          all_goals
            go_roundw
            case rel => exact ⟨k + 1, by omega, by go_num, by rw [← en.out]; exact own_keptN Hn6.out (undrawM gx), by rw [← ef.out]; exact own_keptN Hf6.out (undrawM gx), Hp6.out.symm, grownBy_trans Hg6.out (undrawM gx)⟩
            case measure => simp [intOf]; omega
        · obtain rfl : k = N + 1 := by omega
          have s1 := mkL_say hN (opQ_ok hq2.out)
          have s2 := mkL_say hN (foQ_ok hq2.out)
          have l1 := mkL_len (opQ N Q) (N + 1)
          have l2 := mkL_len (foQ N Q) (N + 1)
          generalize mkL (opQ N Q) (N + 1) = ys at *
          generalize mkL (foQ N Q) (N + 1) = zs at *
          rw [← l1] at hon
          rw [← l2] at hof
          obtain ⟨an, cn, rfl, _, hn2⟩ := ownI_shape hon
          obtain ⟨af, cf, rfl, _, hf2⟩ := ownI_shape hof
          have In := Lib.hid (hn2.at (by unfold maxLen; omega))
          have If := Lib.hid (hf2.at (by unfold maxLen; omega))
          have c1 := say_v H N an cn ys s1 wr (hT3.out.grown hgr) In.out
          have c2 := fun w' (g : wr.grownBy w' none) => say_v H N af cf zs s2 w' (hT3.out.grown (grownBy_trans hgr g)) (If.out.grown g)
          have G9 := Lib.hid (grownBy_trans G3.out hgr)
          clear hon hof hn2 hf2 s1 s2 hap hgr l1 l2
          go_wp2_with fail
          refine c1.mono ?_
          rintro e w5 ⟨rfl, g5⟩
          clear c1
          go_wp2_with fail
          refine (c2 _ g5).mono ?_
          rintro e w6 ⟨rfl, g6⟩
          clear c2
          go_wp2_with fail
          go_ret
          exact ⟨rfl, below_of (grownBy_trans G9.out (grownBy_trans g5 g6))⟩

end Go.Proofs.YtoaknplfphoiaaaDoor
