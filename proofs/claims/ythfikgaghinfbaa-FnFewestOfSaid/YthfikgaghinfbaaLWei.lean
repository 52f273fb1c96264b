/-
  math/bits.OnesCount at numbers below 4096; impl's WeightOf.
-/
import Derived.Test.YthfikgaghinfbaaLNum
import Derived.Test.YthfikgaghinfbaaLOnes
namespace Go.Proofs.Ythfikgaghinfbaa
open Go.RowKit

def on1 (x : Int) : Int := IntKind.u64.wrap (bits BinOp.and IntKind.u64 (x / 2) 6148914691236517205 + bits BinOp.and IntKind.u64 x 6148914691236517205)
def on2 (x : Int) : Int := IntKind.u64.wrap (bits BinOp.and IntKind.u64 (x / 4) 3689348814741910323 + bits BinOp.and IntKind.u64 x 3689348814741910323)
def on3 (x : Int) : Int := bits BinOp.and IntKind.u64 (IntKind.u64.wrap (x / 16 + x)) 1085102592571150095
def on4 (x : Int) : Int := IntKind.u64.wrap (x + x / 256)
def on5 (x : Int) : Int := IntKind.u64.wrap (x + x / 65536)
def on6 (x : Int) : Int := IntKind.u64.wrap (x + x / 4294967296)
def onX (x : Int) : Int := bits BinOp.and IntKind.i64 (wrap64 (on6 (on5 (on4 (on3 (on2 (on1 x))))))) 127
theorem on_tab : ((List.range 4096).all fun x => onX (x : Int) == (pop x : Int)) = true := by decide +kernel
theorem on_at {x : Nat} (hx : x < 4096) : onX (x : Int) = (pop x : Int) := by
  have h := on_tab
  rw [List.all_eq_true] at h
  exact beq_iff_eq.1 (h x (List.mem_range.2 hx))
theorem lones64_any (x : Nat) (hx : x < 4096) (w : World) :
    Calls Try.prog 71 #[.int .u64 x] w fun e w' => e = .returned (.int .i64 (pop x : Nat)) ∧ w = w' := by
  have x0 : (0 : Int) ≤ (x : Int) := by omega
  have x1 : (x : Int) < 4096 := by omega
  rw [← on_at hx]
  clear hx
  unfold onX on6 on5 on4 on3 on2 on1
  go_enter Try.func71, Try.ntmps71
  go_wp2_with fail
  go_ret
  exact ⟨rfl, rfl⟩
set_option maxRecDepth 100000 in
theorem lones_any (x : Nat) (hx : x < 4096) (w : World) :
    Calls Try.prog 56 #[.int .u64 x] w fun e w' => e = .returned (.int .i64 (pop x : Nat)) ∧ w = w' := by
  have c1 := fun w => lones64_any x hx w
  have x0 : (0 : Int) ≤ (x : Int) := by omega
  have x1 : (x : Int) < 4096 := by omega
  clear hx
  go_enter Try.func56, Try.ntmps56
  go_wp2_with (go_at_call 71; refine (c1 _).mono ?_; rintro e w' ⟨rfl, rfl⟩)
  go_ret
  exact ⟨rfl, rfl⟩

end Go.Proofs.Ythfikgaghinfbaa
