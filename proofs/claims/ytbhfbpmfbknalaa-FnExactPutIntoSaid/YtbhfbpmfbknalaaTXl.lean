/-
  The exact laws of StrongOf and NamedTable.
-/
import Derived.Test.YtbhfbpmfbknalaaTCp
import Derived.Test.YtbhfbpmfbknalaaTSn2
import Derived.Test.YtbhfbpmfbknalaaTSs
import Derived.Outline
namespace Go.Proofs.Ytbhfbpmfbknalaa
open Go.RowKit

/-- Two variables that hold tables, what lies in these, and what has turned. -/
def BnA (w wc : World) (B3 B4 : Nat) (a b : Option Addr) (ca cb : Nat) (zs ys : List Int) (n : Nat) : Prop :=
  T1 wc B3 (.slice a zs.length ca) ∧ T1 wc B4 (.slice b n cb) ∧ IntsAt wc a zs ∧ IntsAt wc b ys ∧ w.grownBy wc none
theorem BnA.grown {w wc wd : World} {B3 B4 : Nat} {a b : Option Addr} {ca cb : Nat} {zs ys : List Int} {n : Nat} (h : BnA w wc B3 B4 a b ca cb zs ys n) (g : wc.grownBy wd none) : BnA w wd B3 B4 a b ca cb zs ys n :=
  ⟨h.1.grown g, h.2.1.grown g, h.2.2.1.grown g, h.2.2.2.1.grown g, grownBy_trans h.2.2.2.2 g⟩
theorem bn_mark {w wc wd : World} {B3 B4 base : Nat} {a b : Option Addr} {ca cb : Nat} {zs : List Int} {k : Int} {e : Ending} (h : BnA w wc B3 B4 a b ca cb zs zs zs.length) (hO : OwnI wc base b cb zs) (h3 : B3 < base) (h4 : ∀ g, (Value.slice b zs.length cb).ownBlock = some g → g < B4) (ha : ∀ z, a = some z → some z.block ≠ (Value.slice b zs.length cb).ownBlock) (hb : w.heap.size ≤ base)
    (hm : MarkPost k base b cb zs wc e wd) : BnA w wd B3 B4 a b ca cb zs (marks k zs.length) zs.length := by
  obtain ⟨_, ho, g⟩ := hm
  have n3 : some B3 ≠ (Value.slice b zs.length cb).ownBlock := fun e => by
    rcases hO.2 with ⟨q, _⟩ | ⟨g', c', cur, q, hle, _⟩
    · simp at q
      rw [q.1] at e
      simp [Value.ownBlock] at e
    · simp at q
      rw [q.1] at e
      simp [Value.ownBlock] at e
      omega
  have n4 : some B4 ≠ (Value.slice b zs.length cb).ownBlock := fun e => by
    have := h4 B4 e.symm
    omega
  exact ⟨h.1.kept g n3, h.2.1.kept g n4, h.2.2.1.kept g ha, (show OwnI wd base b cb (marks k zs.length) by unfold OwnI; rw [marks_len]; exact ho).at (by rw [marks_len]; exact h.2.2.1.1), grownBy_row h.2.2.2.2 hO hb g⟩
theorem strR_len (n : Int) : (strR n).length ≤ 9 := by
  unfold strR
  split
  · simp [strL]
  · simp
theorem namR_len (n : Int) : (namR n).length ≤ 9 := by
  unfold namR
  split
  · simp [namL]
  · simp

set_option maxHeartbeats 4000000 in
theorem FnExactStrongOf_walk (a0 : Int) (_w0 : (Lit.int .i64 a0).wf = true) (w : World) :
    Calls Try.prog 14 #[.int .i64 a0] w fun e w' => e = .returned (.bool true) ∧ Below w.heap.size w w' := by
  have hlen : (strR a0).length ≤ 9 := strR_len a0
  have hcg := istr_any a0
  have hcs := sstr_any a0
  generalize strR a0 = zs at *
  have hs := sameL_self zs
  have Hcg := Lib.hid hcg
  have Hcs := Lib.hid hcs
  clear hcg hcs
  go_enter Try.func14, Try.ntmps14
  go_wp2_with fail
  refine (Hcs.out _).mono ?_
  rintro e w1 ⟨a, ca, rfl, ho1, hg1⟩
  have GA := World.grownBy_alloc w1 (.cells #[.slice a zs.length ca] 25) none
  have T3 := Lib.hid (T1.new w1 (.slice a zs.length ca))
  have H1 := Lib.hid (ho1.kept GA)
  have G1 := Lib.hid (grownBy_trans hg1 GA)
  have hlt3 : w1.heap.size < (w1.alloc (.cells #[.slice a zs.length ca] 25)).heap.size := by simp
  generalize hq1 : (w1.alloc (.cells #[.slice a zs.length ca] 25)) = v1 at *
  clear ho1 hg1 GA
  go_wp2_with fail
  clear hq1
  refine (Hcg.out _).mono ?_
  rintro e w2 ⟨b, cb, rfl, ho2, hg2⟩
  have GB := World.grownBy_alloc w2 (.cells #[.slice b zs.length cb] 25) none
  have BN : BnA w (w2.alloc (.cells #[.slice b zs.length cb] 25)) w1.heap.size w2.heap.size a b ca cb zs zs zs.length := ⟨T3.out.grown (grownBy_trans hg2 GB), T1.new w2 _, ((H1.out.kept (grownBy_trans hg2 GB)).at (by unfold maxLen; omega)), (ho2.kept GB).at (by unfold maxLen; omega), grownBy_trans G1.out (grownBy_trans hg2 GB)⟩
  have HO := Lib.hid (ho2.kept GB)
  have HL : Hid (∀ g, (Value.slice b zs.length cb).ownBlock = some g → g < w2.heap.size) := fun g e => (World.ownsRow.lt ho2 g e).2
  have HA : Hid (∀ z, a = some z → some z.block ≠ (Value.slice b zs.length cb).ownBlock) := own_apart H1.out ho2
  have hsz := hg2.size
  have hsw := G1.out.size
  generalize hq2 : (w2.alloc (.cells #[.slice b zs.length cb] 25)) = v2 at *
  have n3 := BN.1.cell
  have n4 := BN.2.1.cell
  have B2 := Lib.hid BN
  clear BN ho2 hg2 GB T3 H1
  go_wp2_with fail
  clear n3 n4 hq2
  refine (eqT_any b a cb ca zs zs v2 B2.out.2.2.2.1 B2.out.2.2.1).mono ?_
  rintro e w3 ⟨rfl, g3⟩
  have B3 := Lib.hid (B2.out.grown g3)
  have n4 := B3.out.2.1.cell
  have HO3 := Lib.hid (HO.out.kept g3)
  go_wp2_with fail
  refine (markT_any 1 (by omega) v1.heap.size b cb zs (by omega) w3 HO3.out).mono ?_
  intro e w4 hm
  have B4 := Lib.hid (bn_mark B3.out HO3.out hlt3 HL.out HA.out hsw hm)
  obtain ⟨rfl, _, _⟩ := hm
  clear n4
  have n4 := B4.out.2.1.cell
  go_wp2_with fail
  refine (heldT_any 1 (by omega) b zs.length cb (by omega) w4 B4.out.2.2.2.1).mono ?_
  rintro e w5 ⟨rfl, g5⟩
  have B5 := Lib.hid (B4.out.grown g5)
  clear n4
  go_wp2_with fail
  refine (Hcg.out _).mono ?_
  rintro e w6 ⟨c, cc, rfl, ho6, hg6⟩
  have GC := World.grownBy_alloc w6 (.cells #[.slice c zs.length cc] 25) none
  have B6 := Lib.hid (B5.out.grown (grownBy_trans hg6 GC))
  have T7 := T1.new w6 (.slice c zs.length cc)
  have I7 := (ho6.kept GC).at (show zs.length ≤ maxLen by unfold maxLen; omega)
  generalize hq6 : (w6.alloc (.cells #[.slice c zs.length cc] 25)) = v6 at *
  have n3 := B6.out.1.cell
  have n7 := T7.cell
  have I6 := Lib.hid I7
  clear ho6 hg6 GC T7 I7
  go_wp2_with fail
  clear n3 n7 hq6
  refine (eqT_any c a cc ca zs zs v6 I6.out B6.out.2.2.1).mono ?_
  rintro e w7 ⟨rfl, g7⟩
  have B7 := Lib.hid (B6.out.grown g7)
  have n4 := B7.out.2.1.cell
  go_wp2_with fail
  refine (heldT_any 1 (by omega) b zs.length cb (by omega) w7 B7.out.2.2.2.1).mono ?_
  rintro e w8 ⟨rfl, g8⟩
  have B8 := Lib.hid (B7.out.grown g8)
  clear n4
  go_wp2_with fail
  go_ret
  exact ⟨rfl, below_of B8.out.2.2.2.2⟩

set_option maxHeartbeats 4000000 in
theorem FnExactNamedTable_walk (a0 : Int) (_w0 : (Lit.int .i64 a0).wf = true) (w : World) :
    Calls Try.prog 11 #[.int .i64 a0] w fun e w' => e = .returned (.bool true) ∧ Below w.heap.size w w' := by
  have hlen : (namR a0).length ≤ 9 := namR_len a0
  have hcg := inam_any a0
  have hcs := snam_any a0
  generalize namR a0 = zs at *
  generalize inN a0 = bb at *
  have hbb : (bb != bb) = false := by simp
  have hs := sameL_self zs
  have Hcg := Lib.hid hcg
  have Hcs := Lib.hid hcs
  clear hcg hcs
  go_enter Try.func11, Try.ntmps11
  go_wp2_with fail
  refine (Hcs.out _).mono ?_
  rintro e w1 ⟨a, ca, rfl, ho1, hg1⟩
  have GA := World.grownBy_alloc w1 (.cells #[.slice a zs.length ca] 25) none
  have T3 := Lib.hid (T1.new w1 (.slice a zs.length ca))
  have H1 := Lib.hid (ho1.kept GA)
  have G1 := Lib.hid (grownBy_trans hg1 GA)
  have hlt3 : w1.heap.size < (w1.alloc (.cells #[.slice a zs.length ca] 25)).heap.size := by simp
  generalize hq1 : (w1.alloc (.cells #[.slice a zs.length ca] 25)) = v1 at *
  clear ho1 hg1 GA
  go_wp2_with fail
  clear hq1
  refine (Hcg.out _).mono ?_
  rintro e w2 ⟨b, cb, rfl, ho2, hg2⟩
  have GB := World.grownBy_alloc w2 (.cells #[.slice b zs.length cb] 25) none
  have BN : BnA w (w2.alloc (.cells #[.slice b zs.length cb] 25)) w1.heap.size w2.heap.size a b ca cb zs zs zs.length := ⟨T3.out.grown (grownBy_trans hg2 GB), T1.new w2 _, ((H1.out.kept (grownBy_trans hg2 GB)).at (by unfold maxLen; omega)), (ho2.kept GB).at (by unfold maxLen; omega), grownBy_trans G1.out (grownBy_trans hg2 GB)⟩
  have HO := Lib.hid (ho2.kept GB)
  have HL : Hid (∀ g, (Value.slice b zs.length cb).ownBlock = some g → g < w2.heap.size) := fun g e => (World.ownsRow.lt ho2 g e).2
  have HA : Hid (∀ z, a = some z → some z.block ≠ (Value.slice b zs.length cb).ownBlock) := own_apart H1.out ho2
  have hsz := hg2.size
  have hsw := G1.out.size
  generalize hq2 : (w2.alloc (.cells #[.slice b zs.length cb] 25)) = v2 at *
  have n3 := BN.1.cell
  have n4 := BN.2.1.cell
  have B2 := Lib.hid BN
  clear BN ho2 hg2 GB T3 H1
  go_wp2_with fail
  clear n3 n4 hq2
  refine (eqT_any b a cb ca zs zs v2 B2.out.2.2.2.1 B2.out.2.2.1).mono ?_
  rintro e w3 ⟨rfl, g3⟩
  have B3 := Lib.hid (B2.out.grown g3)
  have n4 := B3.out.2.1.cell
  have HO3 := Lib.hid (HO.out.kept g3)
  go_wp2_with fail
  refine (markT_any 1 (by omega) v1.heap.size b cb zs (by omega) w3 HO3.out).mono ?_
  intro e w4 hm
  have B4 := Lib.hid (bn_mark B3.out HO3.out hlt3 HL.out HA.out hsw hm)
  obtain ⟨rfl, _, _⟩ := hm
  clear n4
  have n4 := B4.out.2.1.cell
  go_wp2_with fail
  refine (heldT_any 1 (by omega) b zs.length cb (by omega) w4 B4.out.2.2.2.1).mono ?_
  rintro e w5 ⟨rfl, g5⟩
  have B5 := Lib.hid (B4.out.grown g5)
  clear n4
  go_wp2_with fail
  refine (Hcg.out _).mono ?_
  rintro e w6 ⟨c, cc, rfl, ho6, hg6⟩
  have GC := World.grownBy_alloc w6 (.cells #[.slice c zs.length cc] 25) none
  have B6 := Lib.hid (B5.out.grown (grownBy_trans hg6 GC))
  have T7 := T1.new w6 (.slice c zs.length cc)
  have I7 := (ho6.kept GC).at (show zs.length ≤ maxLen by unfold maxLen; omega)
  generalize hq6 : (w6.alloc (.cells #[.slice c zs.length cc] 25)) = v6 at *
  have n3 := B6.out.1.cell
  have n7 := T7.cell
  have I6 := Lib.hid I7
  clear ho6 hg6 GC T7 I7
  go_wp2_with fail
  clear n3 n7 hq6
  refine (eqT_any c a cc ca zs zs v6 I6.out B6.out.2.2.1).mono ?_
  rintro e w7 ⟨rfl, g7⟩
  have B7 := Lib.hid (B6.out.grown g7)
  have n4 := B7.out.2.1.cell
  go_wp2_with fail
  refine (heldT_any 1 (by omega) b zs.length cb (by omega) w7 B7.out.2.2.2.1).mono ?_
  rintro e w8 ⟨rfl, g8⟩
  have B8 := Lib.hid (B7.out.grown g8)
  clear n4
  go_wp2_with fail
  go_ret
  exact ⟨rfl, below_of B8.out.2.2.2.2⟩

end Go.Proofs.Ytbhfbpmfbknalaa
