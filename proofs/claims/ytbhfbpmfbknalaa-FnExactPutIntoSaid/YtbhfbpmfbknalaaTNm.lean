/-
  impl's NamedTable.
-/
import Derived.Test.YtbhfbpmfbknalaaTStr
import Derived.Test.YtbhfbpmfbknalaaSignI
import Derived.Laws.EntriesVeiled
namespace Go.Proofs.Ytbhfbpmfbknalaa
open Go.RowKit Go.Maps

/-! What the tables with names tell. -/
def nsV1 (p q : Int) : Int := if 2 - p ≤ q then q else 2 - p
def nsV2 (p q : Int) : Int := if p ≤ q then 2 else q
def nsV3 (p q : Int) : Int := if p = 1 ∨ q = 1 then 1 else if p ≤ q then p else q
theorem ns1_any (p q : Int) (hp : p = 0 ∨ p = 1 ∨ p = 2) (hq : q = 0 ∨ q = 1 ∨ q = 2) (w : World) :
    Calls Try.prog 71 #[.int .i64 2, .int .i64 p, .int .i64 q] w fun e w' => e = .returned (.int .i64 (nsV1 p q)) ∧ w.grownBy w' none := by
  rcases hp with rfl | rfl | rfl <;> rcases hq with rfl | rfl | rfl
  all_goals
    go_enter Try.func71, Try.ntmps71
    go_wp2_with fail
    go_ret
    exact ⟨rfl, grownBy_refl _ _⟩
theorem ns2_any (p q : Int) (hp : p = 0 ∨ p = 1 ∨ p = 2) (hq : q = 0 ∨ q = 1 ∨ q = 2) (w : World) :
    Calls Try.prog 72 #[.int .i64 2, .int .i64 p, .int .i64 q] w fun e w' => e = .returned (.int .i64 (nsV2 p q)) ∧ w.grownBy w' none := by
  rcases hp with rfl | rfl | rfl <;> rcases hq with rfl | rfl | rfl
  all_goals
    go_enter Try.func72, Try.ntmps72
    go_wp2_with fail
    go_ret
    exact ⟨rfl, grownBy_refl _ _⟩
theorem ns3_any (p q : Int) (hp : p = 0 ∨ p = 1 ∨ p = 2) (hq : q = 0 ∨ q = 1 ∨ q = 2) (w : World) :
    Calls Try.prog 73 #[.int .i64 2, .int .i64 p, .int .i64 q] w fun e w' => e = .returned (.int .i64 (nsV3 p q)) ∧ w.grownBy w' none := by
  rcases hp with rfl | rfl | rfl <;> rcases hq with rfl | rfl | rfl
  all_goals
    go_enter Try.func73, Try.ntmps73
    go_wp2_with fail
    go_ret
    exact ⟨rfl, grownBy_refl _ _⟩

theorem res_load {P : Program} {fn : Func} {p : Tmp} {ty : TypeId} (h : fn.results = #[.cell p ty]) (tmps : Array Value) {w : World} {A : Addr} {v : Value} (hp : tmps.getD p undef = .pointer (some A)) (hl : (loadVar ty A).run P w = .ok v w) : (results fn tmps).run P w = .ok v w := by
  have hp' : tmps[p]?.getD undef = .pointer (some A) := by simpa using hp
  simp [results, h, hp', asAddr, hl]
theorem size6 : (Try.prog.info? 64).map (·.size) = some 6 := by kernel_rfl
theorem there6 (w : World) : (w.alloc (.cells #[.nilFunc, .nilFunc, .nilFunc, .nilFunc, .nilFunc, .nilFunc] 64)).there w.heap.size 0 6 := fun j hj => by
  match j, hj with
  | 0, _ => exact ⟨by simp, frozen_of_row _ _ _ _ _ (heap_alloc_new w _)⟩
  | 1, _ => exact ⟨by simp, frozen_of_row _ _ _ _ _ (heap_alloc_new w _)⟩
  | 2, _ => exact ⟨by simp, frozen_of_row _ _ _ _ _ (heap_alloc_new w _)⟩
  | 3, _ => exact ⟨by simp, frozen_of_row _ _ _ _ _ (heap_alloc_new w _)⟩
  | 4, _ => exact ⟨by simp, frozen_of_row _ _ _ _ _ (heap_alloc_new w _)⟩
  | 5, _ => exact ⟨by simp, frozen_of_row _ _ _ _ _ (heap_alloc_new w _)⟩
theorem grow_cells {w : World} (b : Nat) : ∀ (vs : List Value) (o : Nat) (w' : World), w.grownBy w' none → w.heap.size ≤ b → w.grownBy (w'.setCells b o vs) none
  | [], _, _, h, _ => h
  | v :: vs, o, _, h, hb => grow_cells b vs (o + 1) _ (grow_set h hb o v) hb
theorem one6 : (#[.func (.func 69) #[] #[], .func (.func 70) #[] #[], .func (.func 71) #[] #[], .func (.func 23) #[] #[], .func (.func 72) #[] #[], .func (.func 73) #[] #[]] : Array Value).all (·.oneCell') = true := by kernel_rfl
theorem signs6_any (w : World) :
    Calls Try.prog 50 #[] w fun e w' => e = .returned (.agg #[.func (.func 69) #[] #[], .func (.func 70) #[] #[], .func (.func 71) #[] #[], .func (.func 23) #[] #[], .func (.func 72) #[] #[], .func (.func 73) #[] #[]]) ∧ w.grownBy w' none := by
  have hth := there6 w
  have hr := World.rangeAt_setCells_same (w.alloc (.cells #[.nilFunc, .nilFunc, .nilFunc, .nilFunc, .nilFunc, .nilFunc] 64)) w.heap.size 0 (#[.func (.func 69) #[] #[], .func (.func 70) #[] #[], .func (.func 71) #[] #[], .func (.func 23) #[] #[], .func (.func 72) #[] #[], .func (.func 73) #[] #[]]).toList hth
  have hg := grow_cells (w := w) w.heap.size (#[.func (.func 69) #[] #[], .func (.func 70) #[] #[], .func (.func 71) #[] #[], .func (.func 23) #[] #[], .func (.func 72) #[] #[], .func (.func 73) #[] #[]]).toList 0 (w.alloc (.cells #[.nilFunc, .nilFunc, .nilFunc, .nilFunc, .nilFunc, .nilFunc] 64)) (World.grownBy_alloc _ _ none) (Nat.le_refl _)
  have HR := Lib.hid hr
  have HG := Lib.hid hg
  have HT := Lib.hid hth
  clear hth hr hg
  go_enter Try.func50, Try.ntmps50
  go_wp2_with (refine wpList_store_mid rfl 64 _ _ rfl w.heap.size 0 #[.func (.func 69) #[] #[], .func (.func 70) #[] #[], .func (.func 71) #[] #[], .func (.func 23) #[] #[], .func (.func 72) #[] #[], .func (.func 73) #[] #[]] rfl rfl HT.out size6 one6 ?_)
  have hl := run_loadVar_mid (P := Try.prog) _ w.heap.size 0 64 (#[.func (.func 69) #[] #[], .func (.func 70) #[] #[], .func (.func 71) #[] #[], .func (.func 23) #[] #[], .func (.func 72) #[] #[], .func (.func 73) #[] #[]]).toList _ HR.out Try.underlying64 rfl size6
  exact bodyPost_ret (res_load rfl _ rfl hl) rfl ⟨rfl, HG.out⟩

/-- The table's function literal, whatever function value it holds. -/
theorem nt1_any (K : Nat) (p q r : Int) (B : Nat) (w : World) (eg : ∀ args w, (callFunc K args).run Try.prog w = .ok (.enter K args) w) (h : w.cell? ⟨B, 0, none⟩ = some (.func (.func K) #[] #[]))
    (hc : ∀ w, Calls Try.prog K #[.int .i64 2, .int .i64 p, .int .i64 q] w fun e w' => e = .returned (.int .i64 r) ∧ w.grownBy w' none) :
    Calls Try.prog 52 #[.int .i64 p, .int .i64 q, .pointer (some ⟨B, 0, none⟩)] w fun e w' => e = .returned (.int .i64 r) ∧ w.grownBy w' none := by
  go_enter Try.func52, Try.ntmps52
  go_wp2_with fail
  refine (hc w).mono ?_
  rintro e w2 ⟨rfl, g2⟩
  clear hc
  go_wp2_with fail
  go_ret
  exact ⟨rfl, g2⟩

/-- What NamedTable leaves. -/
def NamPost (zs : List Int) (b : Bool) (w : World) (e : Ending) (w' : World) : Prop :=
  ∃ a cap, e = .returned (.tuple #[.agg #[.slice a zs.length cap], .bool b]) ∧ OwnI w' w.heap.size a cap zs ∧ w.grownBy w' none
def namR (n : Int) : List Int := if 0 ≤ n ∧ n ≤ 5 then namL n.toNat else []

def ndF (m : Nat) (k : Nat) : Int :=
  let p := ((k / 3 : Nat) : Int)
  let q := ((k % 3 : Nat) : Int)
  match m with
  | 0 => lessW 2 p q
  | 1 => greatW 2 p q
  | 2 => nsV1 p q
  | 3 => folW 2 p q
  | 4 => nsV2 p q
  | _ => nsV3 p q
theorem nd_tab : ((List.range 6).all fun m => lT (ndF m) == namL m) = true := by decide +kernel
theorem nd_at {m : Nat} (hm : m < 6) : lT (ndF m) = namL m := by
  have h := nd_tab
  rw [List.all_eq_true] at h
  exact beq_iff_eq.1 (h m (List.mem_range.2 hm))

set_option maxHeartbeats 4000000 in
theorem nam_way (m : Nat) (hm : m < 6) (K : Nat) (w : World) (eg : ∀ args w, (callFunc K args).run Try.prog w = .ok (.enter K args) w)
    (hi : ∀ w, (Instr.index 64 (.agg #[.func (.func 69) #[] #[], .func (.func 70) #[] #[], .func (.func 71) #[] #[], .func (.func 23) #[] #[], .func (.func 72) #[] #[], .func (.func 73) #[] #[]]) (.int .i64 m)).run Try.prog w = .ok (.func (.func K) #[] #[]) w)
    (hc : ∀ k, k < 9 → ∀ w, Calls Try.prog K #[.int .i64 2, .int .i64 ((k / 3 : Nat) : Int), .int .i64 ((k % 3 : Nat) : Int)] w fun e w' => e = .returned (.int .i64 (ndF m k)) ∧ w.grownBy w' none) :
    Calls Try.prog 22 #[.int .i64 m] w (NamPost (namL m) true w) := by
  have hz := Lib.hid (nd_at hm)
  have g1 : w.grownBy (w.alloc (.cells #[.slice none 0 0] 25)) none := World.grownBy_alloc _ _ none
  have t1 := T1.new w (.slice none 0 0)
  have cs := fun w => signs6_any w
  have G1 := Lib.hid g1
  have TT := Lib.hid t1
  have Hc := Lib.hid hc
  have m0 : 0 ≤ (m : Int) := by omega
  have m6 : ¬ (6 ≤ (m : Int)) := by omega
  clear g1 t1 hc hm
  go_enter Try.func22, Try.ntmps22
  go_wp2_with fail
  refine (cs _).mono ?_
  rintro e w2 ⟨rfl, g2⟩
  have gb : w2.grownBy (w2.alloc (.cells #[.func (.func K) #[] #[]] 63)) none := World.grownBy_alloc _ _ none
  have hcell := cell_new1 w2 (.func (.func K) #[] #[]) 63
  have cn := nine_any 52 #[.pointer (some ⟨w2.heap.size, 0, none⟩)] (ndF m) (w2.alloc (.cells #[.func (.func K) #[] #[]] 63)) (fun args w => by kernel_rfl) (fun w3 g k hk => nt1_any K _ _ _ w2.heap.size w3 eg (g.cell hcell (by simp)) (Hc.out k hk))
  have G2 := Lib.hid (grownBy_trans g2 gb)
  clear cs gb hcell g2 eg
  go_wp2_with fail
  refine cn.mono ?_
  rintro e w4 ⟨rfl, g4⟩
  clear cn
  have ctab := fun w => table_any (ndF m) w
  rw [hz.out] at ctab
  go_wp2_with fail
  refine (ctab w4).mono ?_
  rintro e w5 ⟨a, cap, rfl, hO, g5⟩
  have g24 := grownBy_trans G2.out g4
  have T5 := TT.out.grown (grownBy_trans g24 g5)
  have n5 := T5.cell
  have d5 := T5.free
  have hlt := Nat.lt_of_lt_of_le TT.out.lt g24.size
  have F := Lib.hid (fin_tab (.slice a (namL m).length cap) hO (grownBy_trans (grownBy_trans G1.out g24) g5) hlt (Nat.le_refl _))
  have R := Lib.hid (T5.set (v := .slice a (namL m).length cap))
  clear T5 hO g24 hlt g4 g5 G2 ctab hz
  generalize namL m = zs at *
  go_wp2_with fail
  exact bodyPost_ret (resT2 rfl _ rfl rfl R.out) rfl ⟨a, cap, rfl, F.out⟩

theorem nam_no (n : Int) (h : ¬ (0 ≤ n ∧ n ≤ 5)) (w : World) :
    Calls Try.prog 22 #[.int .i64 n] w (NamPost [] false w) := by
  have g1 : w.grownBy (w.alloc (.cells #[.slice none 0 0] 25)) none := World.grownBy_alloc _ _ none
  have t1 := T1.new w (.slice none 0 0)
  have c1 := t1.cell
  have d1 := t1.free
  have F := Lib.hid (And.intro (OwnI.nil (w.alloc (.cells #[.slice none 0 0] 25)) w.heap.size) g1)
  have R := Lib.hid t1
  clear g1 t1
  by_cases h0 : n < 0
  · clear h
    go_enter Try.func22, Try.ntmps22
    go_wp2_with fail
    exact bodyPost_ret (resT2 rfl _ rfl rfl R.out) rfl ⟨none, 0, rfl, F.out⟩
  · have h15 : 6 ≤ n := by omega
    clear h
    go_enter Try.func22, Try.ntmps22
    go_wp2_with fail
    exact bodyPost_ret (resT2 rfl _ rfl rfl R.out) rfl ⟨none, 0, rfl, F.out⟩

def inN (n : Int) : Bool := decide (0 ≤ n ∧ n ≤ 5)
theorem inam_any (n : Int) (w : World) : Calls Try.prog 22 #[.int .i64 n] w (NamPost (namR n) (inN n) w) := by
  by_cases h : 0 ≤ n ∧ n ≤ 5
  · obtain ⟨m, rfl⟩ := Int.eq_ofNat_of_zero_le h.1
    have e : namR (m : Int) = namL m := if_pos h
    have e2 : inN (m : Int) = true := decide_eq_true h
    rw [e, e2]
    have hm : m < 6 := by omega
    match m, hm with
    | 0, _ => exact nam_way 0 (by omega) 69 w (fun args w => by kernel_rfl) (fun w => by kernel_rfl) (fun k hk w => less_any _ _ _ w)
    | 1, _ => exact nam_way 1 (by omega) 70 w (fun args w => by kernel_rfl) (fun w => by kernel_rfl) (fun k hk w => great_any _ _ _ w)
    | 2, _ => exact nam_way 2 (by omega) 71 w (fun args w => by kernel_rfl) (fun w => by kernel_rfl) (fun k hk w => ns1_any _ _ (by omega) (by omega) w)
    | 3, _ => exact nam_way 3 (by omega) 23 w (fun args w => by kernel_rfl) (fun w => by kernel_rfl) (fun k hk w => fol_any _ _ _ w)
    | 4, _ => exact nam_way 4 (by omega) 72 w (fun args w => by kernel_rfl) (fun w => by kernel_rfl) (fun k hk w => ns2_any _ _ (by omega) (by omega) w)
    | 5, _ => exact nam_way 5 (by omega) 73 w (fun args w => by kernel_rfl) (fun w => by kernel_rfl) (fun k hk w => ns3_any _ _ (by omega) (by omega) w)
  · have e : namR n = [] := if_neg h
    have e2 : inN n = false := decide_eq_false h
    rw [e, e2]
    exact nam_no n h w

end Go.Proofs.Ytbhfbpmfbknalaa
