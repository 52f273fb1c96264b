/-
  The contract of valuesByFraction: it makes a map that holds each value of the chain at its fraction. For chains of 1 to 6 steps.
-/
import Derived.Test.YtahlmdlnemmhpaaDoorFracs
import Derived.Maps.Own
import Derived.Maps.OwnSet
import Derived.Maps.Views
import Derived.MapViews
import Derived.DeepKeys4
import Derived.Lib.SmallJoins
import Derived.ProofKit
namespace Go.Proofs.YtahlmdlnemmhpaaDoor
open Go.RowKit Go.Maps Go.Joins

theorem laidOutM : laidOutB Tryd.prog = true := by kernel_rfl
theorem rowF : (45 : TypeId) < Tryd.prog.types.size := of_decide_eq_true (by kernel_rfl)
theorem deepF : Tryd.prog.keyTypeAt (Tryd.prog.types.size + 1) 45 = true := by kernel_rfl
theorem wideF : (match Tryd.prog.underlying 45 with | some (.array _ _) | some (.struct _) => true | _ => false) = true := by rw [Tryd.underlying45]
theorem lawF : Keyed Tryd.prog 45 := Keyed.of_law (deep_law_laid laidOutM (m := 2) (by omega) rowF (by kernel_rfl) wideF)
theorem cellsF : Tryd.prog.cellsOf 45 = 2 := by kernel_rfl
theorem formedF {c0 c1 : Value} : (Value.agg #[c0, c1]).formed Tryd.prog 45 = true := by simp [Value.formed, Tryd.underlying45, cellsF]

def frKey (p q : Int) : Lit := (DataW.agg [.lit (.int .i64 p), .lit (.int .i64 q)] : DataW Unit).asKey

theorem frKey_of {p q : Int} (hp : (Lit.int .i64 p).wf = true) (hq : (Lit.int .i64 q).wf = true) (w : World) :
    keyOf Tryd.prog 45 (.agg #[.int .i64 p, .int .i64 q]) = some (frKey p q) := by
  have hT : DataW.Trod (fun _ => ()) Tryd.prog w 0 (fun _ => true) true 45 (.agg #[.int .i64 p, .int .i64 q]) (.agg [.lit (.int .i64 p), .lit (.int .i64 q)]) ([] ++ []) :=
    shut_agg2 (y0 := (.lit (.int .i64 p), [])) (y1 := (.lit (.int .i64 q), [])) Tryd.underlying45 (by kernel_rfl) cellsF ⟨1, by simp [DataW.trod, Tryd.underlying3, hp]⟩ ⟨1, by simp [DataW.trod, Tryd.underlying3, hq]⟩
  exact (keyOf_asKey deepF wideF formedF hT).1

theorem frac_bounds (n v : Int) (hn : 1 ≤ n ∧ n ≤ 6) (hv : 0 ≤ v ∧ v ≤ 6) : 0 ≤ fracP n v ∧ fracP n v ≤ 6 ∧ 0 ≤ fracW n v ∧ fracW n v ≤ 6 := by
  unfold fracP fracW
  have a := Nat.div_le_self v.toNat (Nat.gcd v.toNat n.toNat)
  have b := Nat.div_le_self n.toNat (Nat.gcd v.toNat n.toNat)
  generalize v.toNat / Nat.gcd v.toNat n.toNat = x at *
  generalize n.toNat / Nat.gcd v.toNat n.toNat = y at *
  omega

theorem wf_small {a : Int} (h : -1000000 ≤ a ∧ a ≤ 1000000) : (Lit.int .i64 a).wf = true := WalkArith.wf_i64 (by omega)

/-- The map after k rounds. -/
def VF (n : Int) : Nat → DataW Unit
  | 0 => .map []
  | k + 1 => (VF n k).put (frKey (fracP n k) (fracW n k)) (.lit (.int .i64 k))

theorem VF_isMap (n : Int) : ∀ k, IsMap (VF n k)
  | 0 => isMap_empty
  | k + 1 => (VF_isMap n k).put _ _

theorem keyIs {p q : Int} (w : World) (hp : (Lit.int .i64 p).wf = true) (hq : (Lit.int .i64 q).wf = true) : WideAt.IsKeyLit (frKey p q) := lawF.key (frKey_of hp hq w)

theorem frKey_inj {p q p' q' : Int} (w : World) (hp : (Lit.int .i64 p).wf = true) (hq : (Lit.int .i64 q).wf = true) (hp' : (Lit.int .i64 p').wf = true) (hq' : (Lit.int .i64 q').wf = true) (h : frKey p q = frKey p' q') : p = p' ∧ q = q' := by
  have e := lawF.inj (frKey_of hp hq w) (h ▸ frKey_of hp' hq' w)
  simpa using e

/-- What the map after k rounds tells of the fraction of v in the chain of n steps. -/
theorem VF_find (w : World) (m n v : Int) (hm : 1 ≤ m ∧ m ≤ 6) (hn : 1 ≤ n ∧ n ≤ 6) (hv : 0 ≤ v ∧ v ≤ 6) : ∀ k : Nat, k ≤ 7 →
    Maps.has (VF m k) (frKey (fracP n v) (fracW n v)) = (findN m.toNat n.toNat v.toNat k).isSome ∧
    (VF m k).atKey (frKey (fracP n v) (fracW n v)) (.lit (.int .i64 0)) = .lit (.int .i64 (((findN m.toNat n.toNat v.toNat k).getD 0 : Nat) : Int))
  | 0, _ => ⟨rfl, rfl⟩
  | k + 1, hk => by
    obtain ⟨ih1, ih2⟩ := VF_find w m n v hm hn hv k (by omega)
    have b := frac_bounds n v hn hv
    have c := frac_bounds m k hm (by omega)
    have hk2 := keyIs w (wf_small (a := fracP m k) (by omega)) (wf_small (a := fracW m k) (by omega))
    by_cases e : k / Nat.gcd k m.toNat = v.toNat / Nat.gcd v.toNat n.toNat ∧ m.toNat / Nat.gcd k m.toNat = n.toNat / Nat.gcd v.toNat n.toNat
    · have e1 : fracP m k = fracP n v := by unfold fracP; simp only [Int.toNat_natCast]; rw [e.1]
      have e2 : fracW m k = fracW n v := by unfold fracW; simp only [Int.toNat_natCast]; rw [e.2]
      have hf : findN m.toNat n.toNat v.toNat (k + 1) = some k := by rw [findN, if_pos e]
      rw [hf]
      unfold VF
      rw [e1, e2] at hk2 ⊢
      exact ⟨has_put_same (VF_isMap m k) hk2 _, atKey_put_same (VF_isMap m k) hk2 _ _⟩
    · have hf : findN m.toNat n.toNat v.toNat (k + 1) = findN m.toNat n.toNat v.toNat k := by rw [findN, if_neg e]
      rw [hf]
      unfold VF
      have hne : frKey (fracP n v) (fracW n v) ≠ frKey (fracP m k) (fracW m k) := by
        intro he
        obtain ⟨h1, h2⟩ := frKey_inj w (wf_small (by omega)) (wf_small (by omega)) (wf_small (by omega)) (wf_small (by omega)) he
        apply e
        unfold fracP at h1
        unfold fracW at h2
        simp only [Int.toNat_natCast] at h1 h2
        omega
      rw [has_put_other hne, atKey_put_other hne]
      exact ⟨ih1, ih2⟩

def MapPost (n : Int) (w : World) (e : Ending) (w' : World) : Prop :=
  e = .returned (.map (some w.heap.size)) ∧ w'.ownsMap Tryd.prog 45 (plainElem Tryd.prog 3) w.heap.size (n.toNat + 1) (VF n (n.toNat + 1)) ∧ w.grownBy w' none

def MapRel (n : Int) (w : World) (i : Value) (wr : World) : Prop :=
  ∃ k : Nat, k ≤ n.toNat + 1 ∧ i = .int .i64 k ∧ wr.ownsMap Tryd.prog 45 (plainElem Tryd.prog 3) w.heap.size k (VF n k) ∧ w.grownBy wr none

theorem byFraction_any (n : Int) (hn : 1 ≤ n ∧ n ≤ 6) (w : World) :
    Calls Tryd.prog 59 #[.int .i64 n] w (MapPost n w) := by
  have hmm : ∀ w x, (Instr.makeMap 58 (some (.int .i64 x))).run Tryd.prog w = .ok (.map (some w.heap.size)) (w.alloc (.map #[] 0)) := fun _ _ => rfl
  go_enter Tryd.func59, Tryd.ntmps59
  go_wp2
  go_loopw [10] (fun i wr => MapRel n w i wr) (fun i _ => (n + 1 - intOf i).toNat)
  case atStart => exact ⟨0, by omega, rfl, World.ownsMap_made _ _ _ _, World.grownBy_alloc _ _ _⟩
  case round =>
    obtain ⟨k, hk, rfl, hown, hgr⟩ := hrel
    by_cases hlt : (k : Int) < n + 1
    · have b := frac_bounds n k hn (by omega)
      have hw1 := wf_small (a := fracP n k) (by omega)
      have hw2 := wf_small (a := fracW n k) (by omega)
      have hwk := wf_small (a := (k : Int)) (by omega)
      go_wp2_with (first
        | (go_at_call 51; refine (fraction_any n k (by omega) (by omega) _).mono ?_; rintro e w1 ⟨rfl, hg1⟩; have hown1 := hown.kept hg1 (by simp))
        | (at_mapUpdate; refine wpList_mapUpdate_own _ rfl _ _ _ 58 rfl 45 3 lawF Tryd.underlying58 _ w.heap.size k _ rfl hown1 (by unfold maxLen; omega) _ _ _ rfl rfl (frKey_of hw1 hw2 w) _ [] (plainElem_int Tryd.underlying3 hwk) ?_; intro w2 hown2 hg2))
      go_roundw
      case rel => exact ⟨k + 1, by omega, by go_num, hown2, grownBy_own (grownBy_trans hgr hg1) hg2⟩
      case measure => simp [intOf]; omega
    · obtain rfl : k = n.toNat + 1 := by omega
      go_wp2
      go_ret
      exact ⟨rfl, hown, hgr⟩

end Go.Proofs.YtahlmdlnemmhpaaDoor
