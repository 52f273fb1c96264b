/-
  impl's PutInto.
-/
import Derived.Test.YtbhfbpmfbknalaaTIm
namespace Go.Proofs.Ytbhfbpmfbknalaa
open Go.RowKit Go.Maps

/-- What PutInto answers. -/
def putR (x y z : List Int) : List Int := if triB x && triB y && triB z then putL x y z else []
theorem putR_t {x y z : List Int} (h1 : triB x = true) (h2 : triB y = true) (h3 : triB z = true) : putR x y z = lT (putF (fT x) (fT y) (fT z)) := by
  unfold putR
  rw [h1, h2, h3, fT_t h1, fT_t h2, fT_t h3]
  rfl
theorem putR_f {x y z : List Int} (h : triB x = false ∨ triB y = false ∨ triB z = false) : putR x y z = [] := by
  unfold putR
  rcases h with h | h | h <;> rw [h] <;> simp
theorem fT_ok (xs : List Int) : ok3 (fT xs) := by
  cases h : triB xs
  · rw [fT_f h]; intro k _; show (0 : Int) ≤ 0 ∧ (0 : Int) ≤ 2; omega
  · rw [fT_t h]; exact fun k hk => (triB_of h).2 k hk

theorem put_new (w : World) (x y z s : Value) :
    let wb := (((w.alloc (.cells #[x] 25)).alloc (.cells #[y] 25)).alloc (.cells #[z] 25)).alloc (.cells #[s] 25)
    T1 wb w.heap.size x ∧ T1 wb (w.heap.size + 1) y ∧ T1 wb (w.heap.size + 2) z ∧ T1 wb (w.heap.size + 3) s ∧ w.grownBy wb none := by
  intro wb
  have g1 : w.grownBy (w.alloc (.cells #[x] 25)) none := World.grownBy_alloc _ _ none
  have b1 := T1.new w x
  have s1 : (w.alloc (.cells #[x] 25)).heap.size = w.heap.size + 1 := by simp
  generalize hw1 : w.alloc (.cells #[x] 25) = w1 at *
  have g2 : w1.grownBy (w1.alloc (.cells #[y] 25)) none := World.grownBy_alloc _ _ none
  have b2 := T1.new w1 y
  have s2 : (w1.alloc (.cells #[y] 25)).heap.size = w.heap.size + 2 := by simp [s1]
  rw [s1] at b2
  generalize hw2 : w1.alloc (.cells #[y] 25) = w2 at *
  have g3 : w2.grownBy (w2.alloc (.cells #[z] 25)) none := World.grownBy_alloc _ _ none
  have b3 := T1.new w2 z
  have s3 : (w2.alloc (.cells #[z] 25)).heap.size = w.heap.size + 3 := by simp [s2]
  rw [s2] at b3
  generalize hw3 : w2.alloc (.cells #[z] 25) = w3 at *
  have g4 : w3.grownBy (w3.alloc (.cells #[s] 25)) none := World.grownBy_alloc _ _ none
  have b4 := T1.new w3 s
  rw [s3] at b4
  have hwb : wb = w3.alloc (.cells #[s] 25) := by rw [← hw3, ← hw2, ← hw1]
  rw [hwb]
  exact ⟨((b1.grown g2).grown g3).grown g4, (b2.grown g3).grown g4, b3.grown g4, b4, grownBy_trans (grownBy_trans (grownBy_trans g1 g2) g3) g4⟩

set_option maxHeartbeats 4000000 in
theorem iput_any (a b c : Option Addr) (ca cb cc : Nat) (x y z : List Int) (w : World) (hx : IntsAt w a x) (hy : IntsAt w b y) (hz : IntsAt w c z) :
    Calls Try.prog 31 #[.agg #[.slice a x.length ca], .agg #[.slice b y.length cb], .agg #[.slice c z.length cc]] w (TabPost (putR x y z) w) := by
  have hp4 := put_new w (.slice a x.length ca) (.slice b y.length cb) (.slice c z.length cc) (.slice none 0 0)
  obtain ⟨wb, hwb⟩ : ∃ wb, wb = (((w.alloc (.cells #[.slice a x.length ca] 25)).alloc (.cells #[.slice b y.length cb] 25)).alloc (.cells #[.slice c z.length cc] 25)).alloc (.cells #[.slice none 0 0] 25) := ⟨_, rfl⟩
  simp only [← hwb] at hp4
  obtain ⟨t1, t2, t3, t4, gw⟩ := hp4
  have cn := nineOf_any a ca x wb (hx.grown gw)
  have n1 := t1.cell
  rw [hwb] at n1
  have T1' := Lib.hid t1
  have T2 := Lib.hid t2
  have T3 := Lib.hid t3
  have T4 := Lib.hid t4
  have GW := Lib.hid gw
  have HY := Lib.hid hy
  have HZ := Lib.hid hz
  have OX := Lib.hid (fT_ok x)
  have OY := Lib.hid (fT_ok y)
  have OZ := Lib.hid (fT_ok z)
  clear t1 t2 t3 t4 gw hx hy hz
  go_enter Try.func31, Try.ntmps31
  go_wp2_with fail
  rw [← hwb]
  clear n1
  refine cn.mono ?_
  rintro e w2 ⟨rfl, g2⟩
  have ga : w2.grownBy (w2.alloc (.cells (c9 (fT x)) 59)) none := World.grownBy_alloc _ _ none
  have G2 := Lib.hid (grownBy_trans GW.out (grownBy_trans g2 ga))
  have n2 := (T2.out.grown (grownBy_trans g2 ga)).cell
  have cn2 := nineOf_any b cb y _ (HY.out.grown G2.out)
  have BX := Lib.hid (Blk9.new w2 (fT x))
  have T3b := Lib.hid (T3.out.grown (grownBy_trans g2 ga))
  have T4b := Lib.hid (T4.out.grown (grownBy_trans g2 ga))
  have S2 := Lib.hid g2.size
  clear cn g2 ga hwb
  unfold a9
  unfold c9 at *
  go_wp2_with fail
  clear n2
  refine cn2.mono ?_
  rintro e w4 ⟨rfl, g4⟩
  have gb : w4.grownBy (w4.alloc (.cells (c9 (fT y)) 59)) none := World.grownBy_alloc _ _ none
  have G4 := Lib.hid (grownBy_trans G2.out (grownBy_trans g4 gb))
  have n3 := (T3b.out.grown (grownBy_trans g4 gb)).cell
  have cn3 := nineOf_any c cc z _ (HZ.out.grown G4.out)
  have BX2 := Lib.hid (BX.out.grown (grownBy_trans g4 gb))
  have BY := Lib.hid (Blk9.new w4 (fT y))
  have T4c := Lib.hid (T4b.out.grown (grownBy_trans g4 gb))
  clear cn2 g4 gb
  unfold a9
  unfold c9 at *
  go_wp2_with fail
  clear n3
  refine cn3.mono ?_
  rintro e w6 ⟨rfl, g6⟩
  have gc : w6.grownBy (w6.alloc (.cells (c9 (fT z)) 59)) none := World.grownBy_alloc _ _ none
  have G6 := Lib.hid (grownBy_trans G4.out (grownBy_trans g6 gc))
  have BX3 := Lib.hid (BX2.out.grown (grownBy_trans g6 gc))
  have BY2 := Lib.hid (BY.out.grown (grownBy_trans g6 gc))
  have BZ := Lib.hid (Blk9.new w6 (fT z))
  have T4d := Lib.hid (T4c.out.grown (grownBy_trans g6 gc))
  have n4 := T4d.out.cell
  have d4 := T4d.out.free
  clear cn3 g6 gc
  by_cases hall : triB x = true ∧ triB y = true ∧ triB z = true
  · obtain ⟨h1, h2, h3⟩ := hall
    have HPR := Lib.hid (putR_t h1 h2 h3)
    rw [h1, h2, h3]
    obtain ⟨a0, a1, a2, a3, a4, a5, a6, a7, a8⟩ := BX3.out.cells
    obtain ⟨b0, b1, b2, b3, b4, b5, b6, b7, b8⟩ := BY2.out.cells
    obtain ⟨e0, e1, e2, e3, e4, e5, e6, e7, e8⟩ := BZ.out.cells
    clear h1 h2 h3
    unfold a9
    unfold c9 at *
    go_wp2_with fail
    clear a0 a1 a2 a3 a4 a5 a6 a7 a8 b0 b1 b2 b3 b4 b5 b6 b7 b8 e0 e1 e2 e3 e4 e5 e6 e7 e8
    refine (com_any (fT x) (fT y) (fT z) OY.out OZ.out _).mono ?_
    rintro e w7 ⟨rfl, g7⟩
    go_wp2_with fail
    refine (table_any (putF (fT x) (fT y) (fT z)) _).mono ?_
    rintro e w8 ⟨a, cap, rfl, hO, g8⟩
    have T8 := T4d.out.grown (grownBy_trans g7 g8)
    have n8 := T8.cell
    have d8 := T8.free
    have G8 := grownBy_trans G6.out (grownBy_trans g7 g8)
    have hlt := Nat.lt_of_lt_of_le T4d.out.lt g7.size
    have F := Lib.hid (fin_tab (.slice a (lT (putF (fT x) (fT y) (fT z))).length cap) hO G8 hlt (by omega))
    have R := Lib.hid (T8.set (v := .slice a (lT (putF (fT x) (fT y) (fT z))).length cap))
    clear T8 hO g7 g8 G8 hlt n4 d4
    generalize lT (putF (fT x) (fT y) (fT z)) = zs at *
    go_wp2_with fail
    exact bodyPost_ret (resT1 rfl _ rfl R.out) rfl (by rw [HPR.out]; exact ⟨a, cap, rfl, F.out⟩)
  · have hb : (!(triB x) || !(triB y) || !(triB z)) = true := by
      cases h1 : triB x <;> cases h2 : triB y <;> cases h3 : triB z <;> simp_all
    have hf : putR x y z = [] := putR_f (by
      cases h1 : triB x <;> cases h2 : triB y <;> cases h3 : triB z <;> simp_all)
    have HPR := Lib.hid hf
    have F := Lib.hid (fin_nil (B := w.heap.size + 3) (.slice none 0 0) G6.out (by omega))
    have R := Lib.hid (T4d.out.set (v := .slice none 0 0))
    generalize triB x = tx at *
    generalize triB y = ty at *
    generalize triB z = tz at *
    unfold a9
    unfold c9 at *
    clear hall hf
    have fin : ∀ p : Prop, p → p := fun _ h => h
    cases tx
    · go_wp2_with fail
      exact bodyPost_ret (resT1 rfl _ rfl R.out) rfl (by rw [HPR.out]; exact ⟨none, 0, rfl, F.out⟩)
    · cases ty
      · go_wp2_with fail
        exact bodyPost_ret (resT1 rfl _ rfl R.out) rfl (by rw [HPR.out]; exact ⟨none, 0, rfl, F.out⟩)
      · cases tz
        · go_wp2_with fail
          exact bodyPost_ret (resT1 rfl _ rfl R.out) rfl (by rw [HPR.out]; exact ⟨none, 0, rfl, F.out⟩)
        · exact absurd hb (by decide)

end Go.Proofs.Ytbhfbpmfbknalaa
