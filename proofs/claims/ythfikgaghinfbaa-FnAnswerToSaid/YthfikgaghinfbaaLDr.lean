/-
  The draws of chapter 11: some chain and some values, a set and an answer, so many questions.
-/
import Derived.Test.YthfikgaghinfbaaRow
import Derived.Test.YthfikgaghinfbaaDraw4
import Derived.Deep.RegionWith
namespace Go.Proofs.Ythfikgaghinfbaa
open Go.RowKit

theorem lRd_row {w2 w3 : World} {r P base : Nat} {e : TypeId} {v : Value} {n : Nat} {xs : List Value} (hr : Rd w2 r P) (ho : w2.ownsRow base e 1 v n xs) (hb : r < base) (hg : w2.grownBy w3 v.ownBlock) : Rd w3 r P :=
  hr.kept fun k hk => hg.block k (Nat.lt_of_le_of_lt hk hr.lt) (fun e => by have := World.ownsRow.lt ho k e.symm; omega)
theorem lgrow_row {a b c : World} {base r : Nat} {v : Value} {n : Nat} {xs : List Value} {e : TypeId} (h : a.grownBy b (some r)) (ho : b.ownsRow base e 1 v n xs) (hb : a.heap.size ≤ base) (k : b.grownBy c v.ownBlock) : a.grownBy c (some r) :=
  ⟨k.os.trans h.os, k.tape.trans h.tape, k.output.trans h.output, Nat.le_trans h.size k.size, fun i hi hne => by
    refine (k.block i (Nat.lt_of_lt_of_le hi h.size) fun e => ?_).trans (h.block i hi hne)
    have := World.ownsRow.lt ho i e.symm
    omega⟩
theorem lown_apart {w w' : World} {base r : Nat} {e : TypeId} {v : Value} {n : Nat} {xs : List Value} (ho : w.ownsRow base e 1 v n xs) (hb : r < base) (hg : w.grownBy w' (some r)) : w'.ownsRow base e 1 v n xs :=
  World.ownsRow.kept ho hg (.inr fun e => by have := World.ownsRow.lt ho r e; omega)
theorem lundrew {a b : World} {row : Option Nat} (h : a.drew.grownBy b row) : a.grownBy b row := ⟨h.os, h.tape, h.output, h.size, h.block⟩
theorem lRd_drew {w : World} {r P : Nat} (h : Rd w r P) : Rd w.drew r P := h.kept fun _ _ => rfl
theorem lown_drew {w : World} {base : Nat} {e : TypeId} {v : Value} {n : Nat} {xs : List Value} (h : w.ownsRow base e 1 v n xs) : w.drew.ownsRow base e 1 v n xs := h
/-- A row, by where it lies: behind the reader. -/
theorem lown_ints {wr : World} {base r : Nat} {v : Value} {xs : List Int} (hm : xs.length ≤ maxLen) (hb : r < base) (h : wr.ownsRow base 3 1 v xs.length (xs.map (Value.int .i64))) : ∃ a cap, v = .slice a xs.length cap ∧ xs.length ≤ cap ∧ IntsAt wr a xs ∧ ∀ x, a = some x → r < x.block := by
  obtain ⟨a, cap, rfl, _, hO⟩ := ownI_shape h
  have hA := hO.at hm
  rcases hO.2 with ⟨h1, h0⟩ | ⟨g, c, cur, h1, hb2, hg, hlc, hcc, h2⟩
  · simp only [Value.slice.injEq] at h1
    obtain ⟨rfl, _, rfl⟩ := h1
    exact ⟨none, 0, rfl, by omega, hA, fun x e => by cases e⟩
  · simp only [Value.slice.injEq, true_and] at h1
    obtain ⟨rfl, rfl⟩ := h1
    exact ⟨_, _, rfl, hlc, hA, fun x e => by cases e; exact Nat.lt_of_lt_of_le hb hb2⟩

/-- Some chain and some values. -/
def GamePost (r P : Nat) (w : World) (e : Ending) (w' : World) : Prop :=
  ∃ (n : Int) (xs : List Int) (a : Option Addr) (cap : Nat), e = .returned (.tuple #[.int .i64 n, .slice a xs.length cap]) ∧ 1 ≤ n ∧ n ≤ 4 ∧ xs.length ≤ 3 ∧ IntsAt w' a xs ∧ (∀ x, a = some x → r < x.block) ∧ Rd w' r (P + 20) ∧ w.grownBy w' (some r)
def GmRel (r P : Nat) (w : World) (v i : Value) (wr : World) : Prop :=
  ∃ (xs : List Int) (m : Nat), 1 ≤ xs.length + m ∧ xs.length + m ≤ 3 ∧ i = .int .i64 m ∧ wr.ownsRow w.heap.size 3 1 v xs.length (xs.map (Value.int .i64)) ∧ Rd wr r (P + 2 * xs.length) ∧ w.grownBy wr (some r)
theorem two_at (x y : Int) (k : Nat) (h : k < 2) : ∃ z : Int, (#[.int .i64 x, .int .i64 y] : Array Value)[k]? = some (.int .i64 z) := by
  match k, h with
  | 0, _ => exact ⟨x, rfl⟩
  | 1, _ => exact ⟨y, rfl⟩
theorem lcell_kept {w w' : World} {C : Array Value} {t : TypeId} {r k : Nat} {x : Value} (hg : (w.alloc (.cells C t)).grownBy w' (some r)) (hr : r < w.heap.size) (hC : C[k]? = some x) : w'.cell? ⟨w.heap.size, k, none⟩ = some x := by
  have hb := hg.block w.heap.size (by simp) (by simp; omega)
  rw [heap_alloc_new] at hb
  simp [World.cell?, hb, hC]
theorem lcell_made {w : World} {C : Array Value} {t : TypeId} {k : Nat} {x : Value} (hC : C[k]? = some x) : (w.alloc (.cells C t)).cell? ⟨w.heap.size, k, none⟩ = some x := by
  rw [World.cell?_alloc_mark]; exact hC

set_option maxRecDepth 100000 in
set_option maxHeartbeats 4000000 in
theorem game_draw (n : Int) (w : World) (r P : Nat) (hr : Rd w r P) (hP : P ≤ 70000) (hn : 1 ≤ n) (hn2 : n ≤ 900) :
    Calls Try.prog 45 #[.pointer (some ⟨r, 0, none⟩), .int .i64 n] w (GamePost r P w) := by
  obtain ⟨i0, hi, hz0, hz1, hz2⟩ := info_parts infoInt
  go_enter Try.func45, Try.ntmps45
  go_wp2_with fail
  refine (pick_any _ _ _ _ hr (by omega)).mono ?_
  rintro e w1 ⟨s, rfl, s0, s1, hr1, hg1⟩
  have s3 : s ≤ 2 := by omega
  have hlr := hr1.lt
  have G1 := Lib.hid hg1
  clear hr hg1 s1
  go_wp2_with fail
  refine (pick_any _ _ _ _ (hr1.alloc _) (by omega)).mono ?_
  rintro e w2 ⟨k, rfl, k0, k1, hr2, hg2⟩
  obtain ⟨K, rfl⟩ := Int.eq_ofNat_of_zero_le k0
  have K2 : K ≤ 2 := by omega
  have o2 := lown_apart (World.ownsRow_lit (e := 3) (size := 1) w1 #[] 0 (Nat.le_refl _) (by unfold maxLen; omega) rfl) hlr hg2
  have g2 := grownBy_trans (World.grownBy_alloc w1 (.cells #[] 3) (some r)) hg2
  have O2 := Lib.hid o2
  have G2 := Lib.hid g2
  have R2 := Lib.hid hr2
  clear o2 g2 hr2 hg2 k0 k1
  go_wp2_with fail
  go_loopw [7, 8] (fun v i wr => GmRel r (P + 2) w1 v i wr) (fun _ i _ => (intOf i).toNat)
  case atStart => exact ⟨[], K + 1, by simp, by simp; omega, by go_num, O2.out, R2.out, G2.out⟩
  case round =>
    obtain ⟨xs, m, hsm0, hsm, rfl, hown, hrr, hgr⟩ := hrel
    by_cases hlt : 0 < m
    · have hlen : xs.length ≤ 2 := by omega
      go_wp2_with fail
      refine (pick_any _ _ _ _ hrr (by omega)).mono ?_
      rintro e w3 ⟨k1, rfl, p0, p1, hr3, hg3⟩
      have o3 := lown_apart hown hlr hg3
      have g3 := grownBy_trans hgr hg3
      clear hg3 hrr hown hgr
      go_wp2_with fail
      refine (pick_any _ _ _ _ (hr3.alloc _) (by omega)).mono ?_
      rintro e w4 ⟨k2, rfl, p2, p3, hr4, hg4⟩
      obtain ⟨K2, rfl⟩ := Int.eq_ofNat_of_zero_le p2
      have K21 : (K2 : Int) < 2 := by omega
      obtain ⟨z, hz⟩ := two_at (1 + s) k1 K2 (by omega)
      have nz := lcell_kept hg4 hr3.lt hz
      have o4 := lown_apart (World.ownsRow.alloc o3 (.cells #[.int .i64 (1 + s), .int .i64 k1] 3)) hlr hg4
      have g4 := grownBy_trans g3 (grownBy_trans (World.grownBy_alloc w3 (.cells #[.int .i64 (1 + s), .int .i64 k1] 3) (some r)) hg4)
      have s4 := g4.size
      clear hg4 o3 g3 hr3 hz p2 p3
      go_wp2_with (at_builtin; refine wpList_append_own _ rfl _ _ 23 rfl w1.heap.size 3 i0 (.int .i64 0) 1 8 Try.underlying23 hi hz0 hz1 hz2 rfl (by decide) _ _ _ rfl (World.ownsRow.alloc o4 _) ⟨w4.heap.size, 0, none⟩ 1 1 [.int .i64 z] rfl rfl ?c1 ?c2 ?c3 ?c4 ?c5 ?_)
      case c1 =>
        intro j u hj
        match j, hj with
        | 0, hj => simp at hj; subst hj; simp [Addr.add]
      case c2 => intro u hu; simp at hu; subst hu; rfl
      case c3 => unfold maxLen; omega
      case c4 => omega
      case c5 => simp; omega
      intro v' w5 hown' hgrow _
      have hA := World.ownsRow.alloc o4 (.cells #[.int .i64 z] 3)
      have hr5 := Lib.hid (lRd_row (hr4.alloc (.cells #[.int .i64 z] 3)) hA hlr hgrow)
      have hg5 := Lib.hid (lgrow_row (grownBy_trans g4 (World.grownBy_alloc w4 (.cells #[.int .i64 z] 3) (some r))) hA (Nat.le_refl _) hgrow)
      have e : xs.map (Value.int .i64) ++ [Value.int .i64 z] = (xs ++ [z]).map (Value.int .i64) := by simp
      rw [e, show xs.length + 1 = (xs ++ [z]).length by simp] at hown'
      have Ho := Lib.hid hown'
      clear hown' hgrow hA e hr4 g4 o4 nz
      go_wp2
      go_roundw
      case rel => exact ⟨xs ++ [z], m - 1, by simp; omega, by simp; omega, by go_num, Ho.out, hr5.out.mono (by simp; omega), hg5.out⟩
      case measure => simp [intOf]; omega
    · obtain rfl : m = 0 := by omega
      have hx1 : 1 ≤ xs.length := by omega
      have hx3 : xs.length ≤ 3 := by omega
      go_wp2_with fail
      refine (odd_any _ _ _ _ hrr (by omega) (by omega) (by omega)).mono ?_
      rintro e w3 ⟨q, rfl, hr3, hg3⟩
      have o3 := lown_apart hown hlr hg3
      have g3 := grownBy_trans hgr hg3
      clear hg3 hrr hown hgr
      cases q
      · obtain ⟨a, cap, rfl, _, hI, hb⟩ := lown_ints (by unfold maxLen; omega) hlr o3
        have HI := Lib.hid hI
        have HB := Lib.hid hb
        have HG := Lib.hid (grownBy_trans G1.out g3)
        clear hI hb o3 g3
        go_wp2_with fail
        go_ret2
        exact ⟨_, xs, a, cap, rfl, by omega, by omega, hx3, HI.out, HB.out, hr3.mono (by omega), HG.out⟩
      · go_wp2_with fail
        refine (pick_any _ _ _ _ hr3 (by omega)).mono ?_
        rintro e w4 ⟨c, rfl, q0, q1, hr4, hg4⟩
        have o4 := lown_apart o3 hlr hg4
        have HG1 := Lib.hid (grownBy_trans g3 hg4)
        have HG := Lib.hid (grownBy_trans G1.out HG1.out)
        clear o3 g3 hg4 hr3
        have hc : c = 0 ∨ c = 1 ∨ c = 2 := by omega
        rcases hc with rfl | rfl | rfl
        · obtain ⟨a, cap, rfl, _, hI, hb⟩ := lown_ints (by unfold maxLen; omega) hlr o4
          have HI := Lib.hid hI
          have HB := Lib.hid hb
          clear hI hb o4
          go_wp2_with fail
          go_ret2
          exact ⟨_, xs, a, cap, rfl, by omega, by omega, hx3, HI.out, HB.out, hr4.mono (by omega), HG.out⟩
        · obtain ⟨a, cap, rfl, _, hO⟩ := ownI_shape o4
          obtain ⟨g, rfl⟩ : ∃ g, a = some ⟨g, 0, none⟩ := by
            rcases hO.2 with ⟨_, h0⟩ | ⟨g, c, cur, he, _⟩
            · omega
            · simp only [Value.slice.injEq, true_and] at he
              exact ⟨g, he.1⟩
          have hfr := World.ownsRow.frozenAt o4 0
          have hce := World.ownsRow.cellAt o4 0 (by omega)
          rw [List.getElem?_eq_getElem (by simp; omega)] at hce
          obtain ⟨u, hce2⟩ : ∃ u, w4.cell? ⟨g, 0, none⟩ = some u := ⟨_, hce⟩
          have hst := World.ownsRow.stored o4 0 (.int .i64 (1 + s + 1))
          have hlg := World.ownsRow.lt o4 g rfl
          have hR := Lib.hid (lRd_row hr4 o4 hlr hst.2)
          have hgx := Lib.hid (lgrow_row (r := r) (show w1.grownBy w4 (some r) from HG1.out) o4 (Nat.le_refl _) hst.2)
          have HGx := Lib.hid (grownBy_trans G1.out hgx.out)
          have hs1 := hst.1
          rw [← List.map_set] at hs1
          have hl2 : (xs.set 0 (1 + s + 1)).length = xs.length := by simp
          rw [← hl2] at hs1
          obtain ⟨a2, cap2, e2, _, hI, hb⟩ := lown_ints (by rw [hl2]; unfold maxLen; omega) hlr hs1
          rw [hl2] at e2
          simp only [Value.slice.injEq, true_and] at e2
          obtain ⟨rfl, rfl⟩ := e2
          have HI := Lib.hid hI
          have HB := Lib.hid hb
          have HL2 := Lib.hid hl2
          have x0 : (0 : Int) < (xs.length : Int) := by omega
          clear hst hs1 hI hb o4 hO hgx hce hl2
          go_wp2_with fail
          go_ret2
          exact ⟨_, xs.set 0 (1 + s + 1), _, _, by rw [HL2.out]; rfl, by omega, by omega, by rw [HL2.out]; exact hx3, HI.out, HB.out, hR.out.mono (by omega), HGx.out⟩
        · have hl4 := hr4.lt
          have HA : Hid (w4.grownBy (w4.alloc (.cells #[] 3)) (some r)) := World.grownBy_alloc _ _ _
          go_wp2_with fail
          go_ret2
          exact ⟨_, [], _, 0, rfl, by omega, by omega, by simp, ⟨by simp, .inl rfl⟩, fun x hx => by cases hx; exact hl4, (hr4.alloc _).mono (by omega), grownBy_trans HG.out HA.out⟩

end Go.Proofs.Ythfikgaghinfbaa
