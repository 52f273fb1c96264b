/-
  impl's RegularOk: all that is read together is the table itself.
-/
import Derived.Test.YtbhfbpmfbknalaaTStr
import Derived.Test.YtbhfbpmfbknalaaTReg
namespace Go.Proofs.Ytbhfbpmfbknalaa
open Go.RowKit Go.Maps

def same9 (f g : Nat → Int) : Bool := (List.range 9).all fun k => f k == g k
theorem same9_iff {f g : Nat → Int} : same9 f g = true ↔ ∀ k, k < 9 → f k = g k := by
  unfold same9
  rw [List.all_eq_true]
  constructor
  · intro h k hk
    exact beq_iff_eq.1 (h k (List.mem_range.2 hk))
  · intro h k hk
    exact beq_iff_eq.2 (h k (List.mem_range.1 hk))
theorem k9_congr {f g : Nat → Int} (h : ∀ k, k < 9 → f k = g k) : k9 f = k9 g := by
  unfold k9
  rw [List.map_congr_left fun k hk => by rw [h k (List.mem_range.1 hk)]]
theorem eql9 {f g : Nat → Int} (hf : ok3 f) (hg : ok3 g) (w : World) : (Op.equalIn 10000 59 (a9 f) (a9 g)).run Try.prog w = .ok (same9 f g) w := by
  obtain ⟨r, hr, hiff⟩ := run_equal_deep (P := Try.prog) w (m := 2) (by omega) (by kernel_rfl) wide9 (key9 hf w) (key9 hg w)
  have e : r = same9 f g := by
    rw [Bool.eq_iff_iff, hiff, same9_iff]
    exact ⟨fun h k hk => k9_inj hf hg h hk, k9_congr⟩
  rw [← e]
  exact hr

section
variable {P : Program} {ops : Array Oper} {Q : Exit → Act → World → Prop} {md : Region.Mode} {S : World → Prop}
theorem drop_an (i d : Nat) {oi : Oper} {fuel : Nat} {listed : Array Bool} {a : Act} {w : World} (hi : ops[i]? = some oi) (hd : oi.dst = some d) (hs : Region.noSelect ops = true) (hf : Region.free md ops listed i = true) (hr : (Region.ready md ops listed).contains i = true)
    (hQ : ∀ c a w, Q (.panic c) (a.put (some d) undef) w → Q (.panic c) a w) (hw : Region.wanted oi (yielded ops a.tmps) = false) (hS : S w) (h : wpAnyH P md ops Q S fuel (listed.setIfInBounds i true) (a.put (some d) undef) w) : wpAnyH P md ops Q S (fuel + 1) listed a w :=
  wpAnyH_take hi hs hf hr (by rw [hd]; exact hQ) (Or.inr ⟨hw, rfl⟩) hS (by rw [hd]; exact h)
end
theorem held_r1 {w0 w1 w2 : World} {a : Nat} {x : List Value} (h : w1.rangeAt a 0 x ∧ w0.grownBy w1 none) (g : w1.grownBy w2 none) : w2.rangeAt a 0 x ∧ w0.grownBy w2 none := ⟨range_grown h.1 g, grownBy_trans h.2 g⟩

/-! What the readings of a table tell together. -/
theorem rdF_at {x : Nat → Int} {p q : Int} {k : Nat} (hk : k < 9) (hp : p = 0 ∨ p = 1 ∨ p = 2) (hq : q = 0 ∨ q = 1 ∨ q = 2) : ∃ b, b < 9 ∧ pairB k b = true ∧ rdF x p q k = x b := by
  refine ⟨(3 * uF p k + vF q k).toNat, ?_, ?_, rfl⟩
  · unfold uF vF
    split <;> split <;> omega
  · unfold uF vF pairB lsN
    simp only [Bool.and_eq_true, Bool.or_eq_true, beq_iff_eq]
    split <;> split <;> omega
theorem rdF_all {x : Nat → Int} {k b : Nat} (hk : k < 9) (hb : b < 9) (h : pairB k b = true) : rdF x ((b / 3 : Nat) : Int) ((b % 3 : Nat) : Int) k = x b := by
  have e : (3 * uF ((b / 3 : Nat) : Int) k + vF ((b % 3 : Nat) : Int) k).toNat = b := by
    unfold pairB lsN at h
    simp only [Bool.and_eq_true, Bool.or_eq_true, beq_iff_eq] at h
    unfold uF vF
    split <;> split <;> omega
  show x _ = x b
  rw [e]
theorem rdL_mem {x : Nat → Int} {f : Nat → Int} : f ∈ rdL x [0, 1, 2] 9 ↔ ∃ p q : Int, (p = 0 ∨ p = 1 ∨ p = 2) ∧ (q = 0 ∨ q = 1 ∨ q = 2) ∧ f = rdF x p q := by
  unfold rdL
  rw [List.mem_map]
  constructor
  · rintro ⟨m, hm, rfl⟩
    have hm := List.mem_range.1 hm
    refine ⟨_, _, ?_, ?_, rfl⟩
    · have : m / 3 < 3 := by omega
      show ([0, 1, 2] : List Int).getD (m / 3) 0 = 0 ∨ ([0, 1, 2] : List Int).getD (m / 3) 0 = 1 ∨ ([0, 1, 2] : List Int).getD (m / 3) 0 = 2
      generalize m / 3 = i at *
      match i, this with
      | 0, _ => exact .inl rfl
      | 1, _ => exact .inr (.inl rfl)
      | 2, _ => exact .inr (.inr rfl)
    · have : m % 3 < 3 := by omega
      show ([0, 1, 2] : List Int).getD (m % 3) 0 = 0 ∨ ([0, 1, 2] : List Int).getD (m % 3) 0 = 1 ∨ ([0, 1, 2] : List Int).getD (m % 3) 0 = 2
      generalize m % 3 = i at *
      match i, this with
      | 0, _ => exact .inl rfl
      | 1, _ => exact .inr (.inl rfl)
      | 2, _ => exact .inr (.inr rfl)
  · rintro ⟨p, q, hp, hq, rfl⟩
    rcases hp with rfl | rfl | rfl <;> rcases hq with rfl | rfl | rfl
    · exact ⟨0, by decide, rfl⟩
    · exact ⟨1, by decide, rfl⟩
    · exact ⟨2, by decide, rfl⟩
    · exact ⟨3, by decide, rfl⟩
    · exact ⟨4, by decide, rfl⟩
    · exact ⟨5, by decide, rfl⟩
    · exact ⟨6, by decide, rfl⟩
    · exact ⟨7, by decide, rfl⟩
    · exact ⟨8, by decide, rfl⟩
/-- At a place all readings together tell what the table tells just if it is regular there. -/
theorem td_at {x : Nat → Int} (hx : ok3 x) {k : Nat} (hk : k < 9) : tdF (rdL x [0, 1, 2] 9) k = x k ↔ ∀ b, b < 9 → pairB k b = true → x k = x b ∨ x k = 1 := by
  obtain ⟨l1, l2, l3⟩ := loF_spec k (rdL x [0, 1, 2] 9)
  obtain ⟨h1, h2, h3⟩ := hiF_spec k (rdL x [0, 1, 2] 9)
  have hall : ∀ b, b < 9 → pairB k b = true → loF (rdL x [0, 1, 2] 9) k ≤ x b ∧ x b ≤ hiF (rdL x [0, 1, 2] 9) k := fun b hb hp => by
    have hm : rdF x ((b / 3 : Nat) : Int) ((b % 3 : Nat) : Int) ∈ rdL x [0, 1, 2] 9 := rdL_mem.2 ⟨_, _, by omega, by omega, rfl⟩
    have a := l2 _ hm
    have c := h2 _ hm
    rw [rdF_all hk hb hp] at a c
    exact ⟨a, c⟩
  have hself : pairB k k = true := by unfold pairB lsN; simp
  have hs := hall k hk hself
  have hlo : ∃ b, b < 9 ∧ pairB k b = true ∧ x b = loF (rdL x [0, 1, 2] 9) k := by
    rcases l3 with e | ⟨f, hf, e⟩
    · have := hx k hk
      exact ⟨k, hk, hself, by omega⟩
    · obtain ⟨p, q, hp, hq, rfl⟩ := rdL_mem.1 hf
      obtain ⟨b, hb, hpb, e2⟩ := rdF_at (x := x) hk hp hq
      exact ⟨b, hb, hpb, by rw [← e, e2]⟩
  have hhi : ∃ b, b < 9 ∧ pairB k b = true ∧ x b = hiF (rdL x [0, 1, 2] 9) k := by
    rcases h3 with e | ⟨f, hf, e⟩
    · have := hx k hk
      exact ⟨k, hk, hself, by omega⟩
    · obtain ⟨p, q, hp, hq, rfl⟩ := rdL_mem.1 hf
      obtain ⟨b, hb, hpb, e2⟩ := rdF_at (x := x) hk hp hq
      exact ⟨b, hb, hpb, by rw [← e, e2]⟩
  clear l2 l3 h2 h3
  unfold tdF
  generalize loF (rdL x [0, 1, 2] 9) k = lo at *
  generalize hiF (rdL x [0, 1, 2] 9) k = hi at *
  obtain ⟨bl, hbl, pbl, ebl⟩ := hlo
  obtain ⟨bh, hbh, pbh, ebh⟩ := hhi
  constructor
  · intro h b hb hp
    have hb2 := hall b hb hp
    by_cases e : lo = hi
    · rw [if_pos e] at h; left; omega
    · rw [if_neg e] at h; right; omega
  · intro h
    have q1 := h bl hbl pbl
    have q2 := h bh hbh pbh
    by_cases e : lo = hi
    · rw [if_pos e]; omega
    · rw [if_neg e]; omega
theorem td_ok (L : List (Nat → Int)) : ok3 (tdF L) := fun k _ => by
  obtain ⟨l1, l2, _⟩ := loF_spec k L
  obtain ⟨h1, h2, h3⟩ := hiF_spec k L
  unfold tdF
  split
  · rename_i e
    rw [e]
    rw [e] at l1
    exact ⟨h1, l1⟩
  · omega
theorem reg_told {xs : List Int} (ht : triB xs = true) : same9 (tdF (rdL (fT xs) [0, 1, 2] 9)) (fT xs) = regB xs := by
  rw [Bool.eq_iff_iff, same9_iff]
  have hx := fT_ok xs
  constructor
  · intro h
    refine regB_mk ht fun a b ha hb hp => ?_
    have := (td_at hx ha).1 (h a ha) b hb hp
    rw [fT_t ht] at this
    unfold lsZ
    simpa using this
  · intro h k hk
    refine (td_at hx hk).2 fun b hb hp => ?_
    rw [fT_t ht]
    exact lsZ_of ((regB_of h).2 k b hk hb hp)

set_option maxHeartbeats 4000000 in
theorem ireg_any (a : Option Addr) (cap : Nat) (xs : List Int) (w : World) (h : IntsAt w a xs) :
    Calls Try.prog 27 #[.agg #[.slice a xs.length cap]] w fun e w' => e = .returned (.bool (regB xs)) ∧ w.grownBy w' none := by
  have g0 : w.grownBy (w.alloc (.cells #[.slice a xs.length cap] 25)) none := World.grownBy_alloc _ _ none
  have n0 := (T1.new w (.slice a xs.length cap)).cell
  have cn := nineOf_any a cap xs _ (h.grown g0)
  have G0 := Lib.hid g0
  clear h g0
  have hu9 := Try.underlying59
  have hgd : Try.prog.eqGuardType Try.prog.depth 59 = false := by kernel_rfl
  cases ht : triB xs
  · have hz := Lib.hid (show regB xs = false by unfold regB; rw [ht]; rfl)
    go_enter Try.func27, Try.ntmps27
    go_wp2_with fail
    refine cn.mono ?_
    rintro e w2 ⟨rfl, g2⟩
    rw [ht]
    have gb : w2.grownBy (w2.alloc (.cells (c9 (fT xs)) 59)) none := World.grownBy_alloc _ _ none
    have HG := Lib.hid (grownBy_trans G0.out (grownBy_trans g2 gb))
    clear cn ht g2 gb
    unfold a9
    unfold c9 at *
    go_wp2_with fail
    generalize w2.alloc (.cells #[.int .i64 (fT xs 0), .int .i64 (fT xs 1), .int .i64 (fT xs 2), .int .i64 (fT xs 3), .int .i64 (fT xs 4), .int .i64 (fT xs 5), .int .i64 (fT xs 6), .int .i64 (fT xs 7), .int .i64 (fT xs 8)] 59) = w3 at *
    refine wp_region_noPanic ?_
    refine wp_region_held_drew (S := fun w' => w.grownBy w' none) (by kernel_rfl) (grownBy_drew HG.out) (fun hH => ?_)
    refine take_an 0 10 (v := ?v1) rfl rfl (by kernel_rfl) (by kernel_rfl) (by kernel_rfl) (fun _ _ _ h => h) (by rfl) ?y1 hH ?r1
    case y1 => (intro w _; go_simp; try with_reducible rfl)
    simp only [Act.put, List.setIfInBounds_toArray, List.set_cons_zero, List.set_cons_succ]
    refine take_an 1 11 (v := ?v2) rfl rfl (by kernel_rfl) (by kernel_rfl) (by kernel_rfl) (fun _ _ _ h => h) (by rfl) ?y2 hH ?r2
    case y2 => (intro w _; go_simp; try with_reducible rfl)
    simp only [Act.put, List.setIfInBounds_toArray, List.set_cons_zero, List.set_cons_succ]
    refine drop_an 2 12 rfl rfl (by kernel_rfl) (by kernel_rfl) (by kernel_rfl) (fun _ _ _ h => h) (by rfl) hH ?_
    simp only [Act.put, List.setIfInBounds_toArray, List.set_cons_zero, List.set_cons_succ]
    refine drop_an 3 13 rfl rfl (by kernel_rfl) (by kernel_rfl) (by kernel_rfl) (fun _ _ _ h => h) (by rfl) hH ?_
    simp only [Act.put, List.setIfInBounds_toArray, List.set_cons_zero, List.set_cons_succ]
    refine drop_an 4 14 rfl rfl (by kernel_rfl) (by kernel_rfl) (by kernel_rfl) (fun _ _ _ h => h) (by rfl) hH ?_
    simp only [Act.put, List.setIfInBounds_toArray, List.set_cons_zero, List.set_cons_succ]
    refine drop_an 5 15 rfl rfl (by kernel_rfl) (by kernel_rfl) (by kernel_rfl) (fun _ _ _ h => h) (by rfl) hH ?_
    simp only [Act.put, List.setIfInBounds_toArray, List.set_cons_zero, List.set_cons_succ]
    refine drop_an 6 16 rfl rfl (by kernel_rfl) (by kernel_rfl) (by kernel_rfl) (fun _ _ _ h => h) (by rfl) hH ?_
    simp only [Act.put, List.setIfInBounds_toArray, List.set_cons_zero, List.set_cons_succ]
    refine drop_an 7 17 rfl rfl (by kernel_rfl) (by kernel_rfl) (by kernel_rfl) (fun _ _ _ h => h) (by rfl) hH ?_
    simp only [Act.put, List.setIfInBounds_toArray, List.set_cons_zero, List.set_cons_succ]
    refine take_an 8 18 (v := ?v3) rfl rfl (by kernel_rfl) (by kernel_rfl) (by kernel_rfl) (fun _ _ _ h => h) (by rfl) ?y3 hH ?r3
    case y3 => (intro w _; go_simp; try with_reducible rfl)
    simp only [Act.put, List.setIfInBounds_toArray, List.set_cons_zero, List.set_cons_succ]
    refine take_an 9 2 (v := ?v4) rfl rfl (by kernel_rfl) (by kernel_rfl) (by kernel_rfl) (fun _ _ _ h => h) (by rfl) ?y4 hH ?r4
    case y4 => (intro w _; go_simp; try with_reducible rfl)
    simp only [Act.put, List.setIfInBounds_toArray, List.set_cons_zero, List.set_cons_succ]
    refine wpAnyH_done (by kernel_rfl) ?_ _
    refine NoPanic.normal ?_
    go_wp2_with fail
    go_ret
    exact ⟨by rw [hz.out]; rfl, hH⟩
  · have hz := Lib.hid (reg_told ht)
    have HX := Lib.hid (fT_ok xs)
    go_enter Try.func27, Try.ntmps27
    go_wp2_with fail
    refine cn.mono ?_
    rintro e w2 ⟨rfl, g2⟩
    rw [ht]
    have gb : w2.grownBy (w2.alloc (.cells (c9 (fT xs)) 59)) none := World.grownBy_alloc _ _ none
    have HG := Lib.hid (grownBy_trans G0.out (grownBy_trans g2 gb))
    have HB := Lib.hid (Blk9.new w2 (fT xs))
    clear cn ht g2 gb
    unfold a9
    unfold c9 at *
    go_wp2_with fail
    generalize hw3 : w2.alloc (.cells #[.int .i64 (fT xs 0), .int .i64 (fT xs 1), .int .i64 (fT xs 2), .int .i64 (fT xs 3), .int .i64 (fT xs 4), .int .i64 (fT xs 5), .int .i64 (fT xs 6), .int .i64 (fT xs 7), .int .i64 (fT xs 8)] 59) = w3 at *
    clear hw3
    refine wp_region_noPanic ?_
    refine wp_region_held_drew (S := fun w' => w'.rangeAt w2.heap.size 0 (v9 (fT xs)) ∧ w.grownBy w' none) (by kernel_rfl) ⟨range_drew HB.out.range, grownBy_drew HG.out⟩ (fun hH => ?_)
    refine take_an 0 10 (v := ?v5) rfl rfl (by kernel_rfl) (by kernel_rfl) (by kernel_rfl) (fun _ _ _ h => h) (by rfl) ?y5 hH ?r5
    case y5 => (intro w _; go_simp; try with_reducible rfl)
    simp only [Act.put, List.setIfInBounds_toArray, List.set_cons_zero, List.set_cons_succ]
    refine take_an 1 11 (v := ?v6) rfl rfl (by kernel_rfl) (by kernel_rfl) (by kernel_rfl) (fun _ _ _ h => h) (by rfl) ?y6 hH ?r6
    case y6 => (intro w _; go_simp; try with_reducible rfl)
    simp only [Act.put, List.setIfInBounds_toArray, List.set_cons_zero, List.set_cons_succ]
    refine load_an 2 12 rfl rfl (by kernel_rfl) (by kernel_rfl) (by kernel_rfl) (fun _ _ _ h => h) (yieldsIf_load_mid (by rfl) _ _ rfl _ _ rfl (v9 (fT xs)) _ (fun w h => h.1) hu9 rfl info9) hH ?_
    simp only [Act.put, List.setIfInBounds_toArray, List.set_cons_zero, List.set_cons_succ]
    refine load_an 6 16 rfl rfl (by kernel_rfl) (by kernel_rfl) (by kernel_rfl) (fun _ _ _ h => h) (yieldsIf_load_mid (by rfl) _ _ rfl _ _ rfl (v9 (fT xs)) _ (fun w h => h.1) hu9 rfl info9) hH ?_
    simp only [Act.put, List.setIfInBounds_toArray, List.set_cons_zero, List.set_cons_succ]
    refine wpAnyH_ready (rs := [3]) (by kernel_rfl) (by simp) ?_
    refine AllReadyH.cons rfl (fun K hK => ?_) AllReadyH.nil
    go_simp
    refine hK.out _ _ (held_r1 hH (World.grownBy_alloc _ _ none)) (fun h3 => ?_)
    clear hK K
    try simp only [Act.put, List.setIfInBounds_toArray, List.set_cons_zero, List.set_cons_succ]
    refine wpAnyH_ready (rs := [4]) (by kernel_rfl) (by simp) ?_
    refine AllReadyH.cons rfl (fun K hK => ?_) AllReadyH.nil
    go_simp
    refine (readings_any (fT xs) HX.out [0, 1, 2] (fun k hk => by
      match k, hk with
      | 0, _ => exact ⟨by decide, by decide⟩
      | 1, _ => exact ⟨by decide, by decide⟩
      | 2, _ => exact ⟨by decide, by decide⟩) (by decide) (some ⟨w3.heap.size, 0, none⟩) 3 _ ((three_cells w3).grown (grownBy_drew (grownBy_refl _ _)))).mono ?_
    rintro e w5 ⟨b, rfl, ⟨D, ho5, K5⟩, g5⟩
    go_wp2_with fail
    refine hK.out _ _ (held_r1 h3 g5) (fun h4 => ?_)
    clear hK K
    try simp only [Act.put, List.setIfInBounds_toArray, List.set_cons_zero, List.set_cons_succ]
    have ct : Calls Try.prog 56 #[.map (some b)] w5 fun e w' => e = .returned (.agg (v9 (tdF (rdL (fT xs) [0, 1, 2] 9))).toArray) ∧ w5.grownBy w' none := told_any _ D b _ w5 K5 ho5
    have heq : ∀ w, (Op.equalIn 10000 59 (.agg (v9 (tdF (rdL (fT xs) [0, 1, 2] 9))).toArray) (.agg (v9 (fT xs)).toArray)).run Try.prog w = .ok (same9 (tdF (rdL (fT xs) [0, 1, 2] 9)) (fT xs)) w := eql9 (td_ok _) HX.out
    clear ho5 K5
    rw [hz.out] at heq
    generalize tdF (rdL (fT xs) [0, 1, 2] 9) = F0 at *
    refine wpAnyH_ready (rs := [5]) (by kernel_rfl) (by simp) ?_
    refine AllReadyH.cons rfl (fun K hK => ?_) AllReadyH.nil
    go_simp
    refine ct.mono ?_
    rintro e w6 ⟨rfl, g6⟩
    go_wp2_with fail
    refine hK.out _ _ (held_r1 h4 g6) (fun h5 => ?_)
    clear hK K
    try simp only [Act.put, List.setIfInBounds_toArray, List.set_cons_zero, List.set_cons_succ]
    clear ct
    refine take_an 7 17 (v := ?v7) rfl rfl (by kernel_rfl) (by kernel_rfl) (by kernel_rfl) (fun _ _ _ h => h) (by rfl) ?y7 h5 ?r7
    case y7 => (intro w _; go_simp; try with_reducible rfl)
    simp only [Act.put, List.setIfInBounds_toArray, List.set_cons_zero, List.set_cons_succ]
    refine take_an 8 18 (v := ?v8) rfl rfl (by kernel_rfl) (by kernel_rfl) (by kernel_rfl) (fun _ _ _ h => h) (by rfl) ?y8 h5 ?r8
    case y8 => (intro w _; go_simp; try with_reducible rfl)
    simp only [Act.put, List.setIfInBounds_toArray, List.set_cons_zero, List.set_cons_succ]
    refine take_an 9 2 (v := ?v9) rfl rfl (by kernel_rfl) (by kernel_rfl) (by kernel_rfl) (fun _ _ _ h => h) (by rfl) ?y9 h5 ?r9
    case y9 => (intro w _; go_simp; try with_reducible rfl)
    simp only [Act.put, List.setIfInBounds_toArray, List.set_cons_zero, List.set_cons_succ]
    refine wpAnyH_done (by kernel_rfl) ?_ _
    refine NoPanic.normal ?_
    go_wp2_with fail
    go_ret
    exact ⟨rfl, h5.2⟩
end Go.Proofs.Ytbhfbpmfbknalaa
