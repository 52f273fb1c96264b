/-
  impl.AlwaysOk, impl.AgainstOf, impl.AxiomAt. No condition.
-/
import Derived.Test.YtdofeahbgodopaaALow
import Derived.Test.YtdofeahbgodopaaAlwF
import Derived.BigQuiet
import Derived.Deep.QuietTactic
namespace Go.Proofs.Ytdofeahbgodopaa
open Go.RowKit

theorem results_tmp4 {fn : Func} {t u v x : Tmp} (h : fn.results = #[.tmp t, .tmp u, .tmp v, .tmp x]) (tmps : Array Value) (P : Program) (w : World) :
    (results fn tmps).run P w = .ok (.tuple #[tmps.getD t undef, tmps.getD u undef, tmps.getD v undef, tmps.getD x undef]) w := by
  simp [results, h]
theorem against_no {N : Nat} (hN : 1 ≤ N ∧ N ≤ 6) {t : Tr} (h : agN N t = none) (w : World) :
    Calls Try.prog 51 #[.int .i64 N, .iface (nodeT t) (nodeP t)] w fun e w' => e = .returned (.tuple #[.agg #[.int .i64 0, .int .i64 0, .int .i64 0, .int .i64 0], .bool false]) ∧ w.grownBy w' none := by
  have := against_in N hN t w
  rw [agArr_n h, h] at this
  exact this
theorem against_yes {N : Nat} (hN : 1 ≤ N ∧ N ≤ 6) {t : Tr} {k : Nat} (h : agN N t = some k) (w : World) :
    Calls Try.prog 51 #[.int .i64 N, .iface (nodeT t) (nodeP t)] w fun e w' => e = .returned (.tuple #[.agg #[.int .i64 N, .int .i64 (tA N k), .int .i64 (tB N k), .int .i64 (tC N k)], .bool true]) ∧ w.grownBy w' none := by
  have := against_in N hN t w
  rw [agArr_s h, h] at this
  exact this

theorem always_no (n : Int) (s : ByteArray) (w : World) (h : inB n 1 6 = false ∨ fOf (bl s) = none) :
    Calls Try.prog 21 #[.int .i64 n, .string s] w fun e w' => e = .returned (.bool false) ∧ w.grownBy w' none := by
  have cc := chain_no n s w h
  clear h
  go_enter Try.func21, Try.ntmps21
  go_wp2_with fail
  refine cc.mono ?_
  rintro e w1 ⟨v, hv, rfl, g1⟩
  clear cc
  go_wp2_with fail
  go_ret
  exact ⟨rfl, g1⟩

theorem always_yes (N : Nat) (hN : 1 ≤ N ∧ N ≤ 6) (s : ByteArray) (w : World) {t : Tr} (ho : fOf (bl s) = some t) :
    Calls Try.prog 21 #[.int .i64 N, .string s] w fun e w' => e = .returned (.bool (alwT N t)) ∧ w.grownBy w' none := by
  have cc := chain_yes s w (inB_t (n := N) (by omega)) ho
  clear ho
  have ha := agN_alw N t
  cases hag : agN N t with
  | none =>
    have c2 := against_no hN hag
    rw [hag] at ha
    rw [← ha]
    clear ha hag
    go_enter Try.func21, Try.ntmps21
    go_wp2_with fail
    refine cc.mono ?_
    rintro e w1 ⟨rfl, g1⟩
    clear cc
    go_wp2_with fail
    refine (c2 _).mono ?_
    rintro e w2 ⟨rfl, g2⟩
    clear c2
    go_wp2_with fail
    go_ret
    exact ⟨rfl, grownBy_trans g1 (grownBy_trans g2 (World.grownBy_alloc _ _ none))⟩
  | some k =>
    have c2 := against_yes hN hag
    rw [hag] at ha
    rw [← ha]
    clear ha hag
    go_enter Try.func21, Try.ntmps21
    go_wp2_with fail
    refine cc.mono ?_
    rintro e w1 ⟨rfl, g1⟩
    clear cc
    go_wp2_with fail
    refine (c2 _).mono ?_
    rintro e w2 ⟨rfl, g2⟩
    clear c2
    go_wp2_with fail
    go_ret
    exact ⟨rfl, grownBy_trans g1 (grownBy_trans g2 (World.grownBy_alloc _ _ none))⟩

theorem always_any (n : Int) (s : ByteArray) (w : World) :
    Calls Try.prog 21 #[.int .i64 n, .string s] w fun e w' => e = .returned (.bool (alwB n (bl s))) ∧ w.grownBy w' none := by
  cases hi : inB n 1 6
  · rw [alwB_o hi]; exact always_no n s w (.inl hi)
  · cases ho : fOf (bl s) with
    | none => rw [alwB_n ho]; exact always_no n s w (.inr ho)
    | some t =>
      obtain ⟨N, rfl, hN⟩ := nat_of hi
      rw [alwB_t ho hi]
      exact always_yes N hN s w ho

/-- What AgainstOf answers. -/
def agV (n : Int) (l : List UInt8) : Value :=
  match agI n l with
  | some k => .tuple #[.int .i64 (tA n.toNat k), .int .i64 (tB n.toNat k), .int .i64 (tC n.toNat k), .bool true]
  | none => .tuple #[.int .i64 (-1), .int .i64 (-1), .int .i64 (-1), .bool false]
theorem agV_n {n : Int} {l : List UInt8} (h : agI n l = none) : agV n l = .tuple #[.int .i64 (-1), .int .i64 (-1), .int .i64 (-1), .bool false] := by unfold agV; rw [h]
theorem agV_s {N k : Nat} {l : List UInt8} (h : agI N l = some k) : agV N l = .tuple #[.int .i64 (tA N k), .int .i64 (tB N k), .int .i64 (tC N k), .bool true] := by unfold agV; rw [h]; rfl

def axT (n : Int) : ByteArray := ⟨(axS n).toArray⟩
theorem axS_out {n : Int} (h : ¬ (0 ≤ n ∧ n ≤ 3)) : axS n = [] := by
  unfold axS
  rw [if_neg (by omega), if_neg (by omega), if_neg (by omega), if_neg (by omega)]

end Go.Proofs.Ytdofeahbgodopaa
