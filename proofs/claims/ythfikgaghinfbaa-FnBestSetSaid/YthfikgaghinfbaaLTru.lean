/-
  impl's truthKept, the function that it hands back, and setFor of such a function.
-/
import Derived.Test.YthfikgaghinfbaaLNum
namespace Go.Proofs.Ythfikgaghinfbaa
open Go.RowKit

/-- A slice of truths as it lies: what stands at the places below A. -/
def BitsAt (w : World) (b o A : Nat) (f : Nat → Bool) : Prop := b < w.heap.size ∧ ∀ c, c < A → w.cell? ⟨b, o + c, none⟩ = some (.bool (f c))
theorem BitsAt.grown {w w' : World} {b o A : Nat} {f : Nat → Bool} (h : BitsAt w b o A f) (g : w.grownBy w' none) : BitsAt w' b o A f :=
  ⟨Nat.lt_of_lt_of_le h.1 g.size, fun c hc => g.cell (h.2 c hc) (by simp)⟩
/-- The two cells that such a function reads, and the truths. -/
def KeptAt (w : World) (Bk Bs : Nat) (N : Nat) (b o cap A : Nat) (f : Nat → Bool) : Prop :=
  w.cell? ⟨Bk, 0, none⟩ = some (.slice (some ⟨b, o, none⟩) A cap) ∧ w.cell? ⟨Bs, 0, none⟩ = some (.int .i64 N) ∧ BitsAt w b o A f
theorem KeptAt.grown {w w' : World} {Bk Bs N b o cap A : Nat} {f : Nat → Bool} (h : KeptAt w Bk Bs N b o cap A f) (g : w.grownBy w' none) : KeptAt w' Bk Bs N b o cap A f :=
  ⟨g.cell h.1 (by simp), g.cell h.2.1 (by simp), h.2.2.grown g⟩

theorem tkept_any (N : Nat) (a : Option Addr) (len cap : Nat) (w : World) :
    Calls Try.prog 59 #[.int .i64 N, .slice a len cap] w fun e w' => e = .returned (.func (.func 77) #[] #[.pointer (some ⟨w.heap.size + 1, 0, none⟩), .pointer (some ⟨w.heap.size, 0, none⟩)]) ∧ w' = (w.alloc (.cells #[.int .i64 N] 3)).alloc (.cells #[.slice a len cap] 61) := by
  go_enter Try.func59, Try.ntmps59
  go_wp2_with fail
  go_ret
  exact ⟨by simp, rfl⟩
theorem tkept_post {w : World} {N b o len cap : Nat} {f : Nat → Bool} (h : BitsAt w b o len f) :
    KeptAt ((w.alloc (.cells #[.int .i64 N] 3)).alloc (.cells #[.slice (some ⟨b, o, none⟩) len cap] 61)) (w.heap.size + 1) w.heap.size N b o cap len f ∧ w.grownBy ((w.alloc (.cells #[.int .i64 N] 3)).alloc (.cells #[.slice (some ⟨b, o, none⟩) len cap] 61)) none := by
  have g1 := World.grownBy_alloc w (.cells #[.int .i64 N] 3) none
  have g2 := World.grownBy_alloc (w.alloc (.cells #[.int .i64 N] 3)) (.cells #[.slice (some ⟨b, o, none⟩) len cap] 61) none
  have c2 := lcell_new (w.alloc (.cells #[.int .i64 N] 3)) (.slice (some ⟨b, o, none⟩) len cap) 61
  have s1 : (w.alloc (.cells #[.int .i64 N] 3)).heap.size = w.heap.size + 1 := by simp
  rw [s1] at c2
  exact ⟨⟨c2, g2.cell (lcell_new w _ _) (by simp), h.grown (grownBy_trans g1 g2)⟩, grownBy_trans g1 g2⟩

set_option maxHeartbeats 1000000 in
theorem tk1_any (N : Nat) (a : Option Addr) (cap : Nat) (xs : List Int) (Bk Bs b o c0 A : Nat) (f : Nat → Bool) (w : World) (h : IntsAt w a xs) (hg : gameB (N : Int) xs = true) (hA : A = pw N xs.length) (hk : KeptAt w Bk Bs N b o c0 A f) :
    Calls Try.prog 77 #[.slice a xs.length cap, .pointer (some ⟨Bk, 0, none⟩), .pointer (some ⟨Bs, 0, none⟩)] w fun e w' => e = .returned (.bool (f (codeL N xs))) ∧ w.grownBy w' none := by
  have cc := fun (wx : World) (hx : w.grownBy wx none) => ilcode_any N a cap xs wx (h.grown hx) hg
  have hN : 1 ≤ N ∧ N ≤ 3 := by have := (gameB_of hg).1; omega
  have hcl : codeL N xs < A := by rw [hA]; exact (code_dig hg).1
  have hA64 : A ≤ 64 := by rw [hA]; exact (pw_le hN.2 (gameB_of hg).2.1.2).2
  obtain ⟨h1, h2, h3, h4⟩ := hk
  have hc := h4 _ hcl
  have hl3 := (gameB_of hg).2.1.2
  have l3 : (xs.length : Int) ≤ 3 := by omega
  have kA : ((codeL N xs : Nat) : Int) < (A : Int) := by omega
  have k0 : (0 : Int) ≤ ((codeL N xs : Nat) : Int) := by omega
  have A64 : (A : Int) ≤ 64 := by omega
  clear h hg hA h3 h4 hcl hN hA64 hl3
  generalize codeL N xs = K at *
  have Q : ∀ (m : Nat), Calls Try.prog 78 #[.int .i64 N, .slice a xs.length cap] (w.drewN m) fun e w'' => e = .returned (.int .i64 (K : Nat)) ∧ ∃ m, w'' = w.drewN m := fun m => Calls.quiet_of_same ((cc (w.drewN m) (grownBy_drewN (grownBy_refl _ _) m)).mono fun _ _ p => ⟨p.1, p.2.symm⟩)
  clear cc
  go_enter Try.func77, Try.ntmps77
  go_wp2_with fail
  go_quiet (first | (go_at_call 78; exact Q _))
  go_wp2
  go_ret
  exact ⟨rfl, grownBy_drewN (grownBy_refl _ _) _⟩

end Go.Proofs.Ythfikgaghinfbaa
