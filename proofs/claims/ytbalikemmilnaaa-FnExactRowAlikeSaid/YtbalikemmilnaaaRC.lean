/-
  What the functions of chapter 8 answer, as propositions: the laws' walks take them as they come.
-/
import Derived.Test.YtbalikemmilnaaaRSpecM
import Derived.Test.YtbalikemmilnaaaSignI
namespace Go.Proofs.Ytbalikemmilnaaa
open Go.RowKit

def FarC : Prop := ∀ (n a b : Int) (w : World), Calls Try.prog 16 #[.int .i64 n, .int .i64 a, .int .i64 b] w fun e w' => e = .returned (.int .i64 (farW n a b)) ∧ w.grownBy w' none
def AlkC : Prop := ∀ (n a b : Int) (w : World), Calls Try.prog 24 #[.int .i64 n, .int .i64 a, .int .i64 b] w fun e w' => e = .returned (.int .i64 (alkW n a b)) ∧ w.grownBy w' none
def RowC : Prop := ∀ (n : Int) (a : Option Addr) (cap : Nat) (xs : List Int) (w : World), IntsAt w a xs → Calls Try.prog 28 #[.int .i64 n, .slice a xs.length cap] w fun e w' => e = .returned (.bool (rowB n xs)) ∧ w.grownBy w' none
def RfarC : Prop := ∀ (n : Int) (a b : Option Addr) (ca cb : Nat) (x y : List Int) (w : World), IntsAt w a x → IntsAt w b y → Calls Try.prog 31 #[.int .i64 n, .slice a x.length ca, .slice b y.length cb] w fun e w' => e = .returned (.int .i64 (rfarW n x y)) ∧ w.grownBy w' none
def RalkC : Prop := ∀ (n : Int) (a b : Option Addr) (ca cb : Nat) (x y : List Int) (w : World), IntsAt w a x → IntsAt w b y → Calls Try.prog 35 #[.int .i64 n, .slice a x.length ca, .slice b y.length cb] w fun e w' => e = .returned (.int .i64 (ralkW n x y)) ∧ w.grownBy w' none
def MovC : Prop := ∀ (n : Int) (s : ByteArray) (w : World), Calls Try.prog 38 #[.int .i64 n, .string s] w fun e w' => e = .returned (.int .i64 (movI n (bl s))) ∧ w.grownBy w' none

theorem far_v (H : FarC) (n a b : Int) {v : Int} (h : farW n a b = v) (w : World) : Calls Try.prog 16 #[.int .i64 n, .int .i64 a, .int .i64 b] w fun e w' => e = .returned (.int .i64 v) ∧ w.grownBy w' none := by rw [← h]; exact H n a b w
theorem alk_v (H : AlkC) (n a b : Int) {v : Int} (h : alkW n a b = v) (w : World) : Calls Try.prog 24 #[.int .i64 n, .int .i64 a, .int .i64 b] w fun e w' => e = .returned (.int .i64 v) ∧ w.grownBy w' none := by rw [← h]; exact H n a b w
theorem rowok_v (H : RowC) (n : Int) (a : Option Addr) (cap : Nat) (xs : List Int) {v : Bool} (h : rowB n xs = v) (w : World) (hx : IntsAt w a xs) : Calls Try.prog 28 #[.int .i64 n, .slice a xs.length cap] w fun e w' => e = .returned (.bool v) ∧ w.grownBy w' none := by rw [← h]; exact H n a cap xs w hx
theorem rfar_v (H : RfarC) (n : Int) (a b : Option Addr) (ca cb : Nat) (x y : List Int) {v : Int} (h : rfarW n x y = v) (w : World) (hx : IntsAt w a x) (hy : IntsAt w b y) : Calls Try.prog 31 #[.int .i64 n, .slice a x.length ca, .slice b y.length cb] w fun e w' => e = .returned (.int .i64 v) ∧ w.grownBy w' none := by rw [← h]; exact H n a b ca cb x y w hx hy
theorem ralk_v (H : RalkC) (n : Int) (a b : Option Addr) (ca cb : Nat) (x y : List Int) {v : Int} (h : ralkW n x y = v) (w : World) (hx : IntsAt w a x) (hy : IntsAt w b y) : Calls Try.prog 35 #[.int .i64 n, .slice a x.length ca, .slice b y.length cb] w fun e w' => e = .returned (.int .i64 v) ∧ w.grownBy w' none := by rw [← h]; exact H n a b ca cb x y w hx hy
theorem mov_v (H : MovC) (n : Int) (s : ByteArray) {v : Int} (h : movI n (bl s) = v) (w : World) : Calls Try.prog 38 #[.int .i64 n, .string s] w fun e w' => e = .returned (.int .i64 v) ∧ w.grownBy w' none := by rw [← h]; exact H n s w
theorem fol_v (n a b : Int) {v : Int} (h : folW n a b = v) (w : World) : Calls Try.prog 19 #[.int .i64 n, .int .i64 a, .int .i64 b] w fun e w' => e = .returned (.int .i64 v) ∧ w.grownBy w' none := by rw [← h]; exact fol_any n a b w
theorem plus_v (n a b : Int) {v : Int} (h : plusW n a b = v) (w : World) : Calls Try.prog 20 #[.int .i64 n, .int .i64 a, .int .i64 b] w fun e w' => e = .returned (.int .i64 v) ∧ w.grownBy w' none := by rw [← h]; exact plus_any n a b w
theorem times_v (n a b : Int) {v : Int} (h : timesW n a b = v) (w : World) : Calls Try.prog 21 #[.int .i64 n, .int .i64 a, .int .i64 b] w fun e w' => e = .returned (.int .i64 v) ∧ w.grownBy w' none := by rw [← h]; exact times_any n a b w
theorem less_v (n a b : Int) {v : Int} (h : lessW n a b = v) (w : World) : Calls Try.prog 26 #[.int .i64 n, .int .i64 a, .int .i64 b] w fun e w' => e = .returned (.int .i64 v) ∧ w.grownBy w' none := by rw [← h]; exact less_any n a b w
theorem not_v (n a : Int) {v : Int} (h : notW n a = v) (w : World) : Calls Try.prog 22 #[.int .i64 n, .int .i64 a] w fun e w' => e = .returned (.int .i64 v) ∧ w = w' := by rw [← h]; exact not_any n a w

end Go.Proofs.Ytbalikemmilnaaa
