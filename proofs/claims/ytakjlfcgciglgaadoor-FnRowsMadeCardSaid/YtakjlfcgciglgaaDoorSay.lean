/-
  Rows of values of a chain that may be said of one letter, as lists of numbers: they are closed under following; whatever holds of the row of all values and of noughts and is kept by following holds of all of them, for 1 to 4 steps; the row of a formula is one of them. No program is named.
-/
import Derived.Test.YtakjlfcgciglgaaDoorFVal
import Derived.Test.YtakjlfcgciglgaaDoorSetI
namespace Go.Proofs.YtakjlfcgciglgaaDoor

def digs (b : Nat) : Nat → Nat → List Nat
  | 0, _ => []
  | k + 1, c => digs b k (c / b) ++ [c % b]
def codeR (b : Nat) (r : List Nat) : Nat := r.foldl (fun s d => s * b + d) 0
theorem codeR_snoc (b : Nat) (r : List Nat) (d : Nat) : codeR b (r ++ [d]) = codeR b r * b + d := by simp [codeR]
theorem digs_len (b : Nat) : ∀ k c, (digs b k c).length = k := by
  intro k
  induction k with
  | zero => intro c; rfl
  | succ k ih => intro c; simp [digs, ih]
theorem digs_code {b : Nat} : ∀ k (r : List Nat), r.length = k → (∀ d ∈ r, d < b) → digs b k (codeR b r) = r ∧ codeR b r < b ^ k := by
  intro k
  induction k with
  | zero =>
    intro r hr _
    have : r = [] := List.length_eq_zero_iff.1 hr
    subst this
    exact ⟨rfl, Nat.zero_lt_one⟩
  | succ k ih =>
    intro r hr hd
    have hne : r ≠ [] := by rintro rfl; simp at hr
    obtain ⟨l, d, rfl⟩ : ∃ l d, r = l ++ [d] := ⟨r.dropLast, r.getLast hne, (List.dropLast_concat_getLast hne).symm⟩
    have hl : l.length = k := by simpa using hr
    have hdl : d < b := hd d (by simp)
    obtain ⟨h1, h2⟩ := ih l hl fun x hx => hd x (by simp [hx])
    rw [codeR_snoc]
    refine ⟨?_, ?_⟩
    · show digs b k ((codeR b l * b + d) / b) ++ [(codeR b l * b + d) % b] = _
      rw [Nat.mul_comm, Nat.mul_add_div (by omega), Nat.div_eq_of_lt hdl, Nat.add_zero, Nat.mul_add_mod, Nat.mod_eq_of_lt hdl, h1]
    · rw [Nat.pow_succ]
      have := Nat.mul_le_mul_right b (show codeR b l + 1 ≤ b ^ k by omega)
      rw [Nat.add_mul] at this
      omega

/-- At each place how true it is that the value of the second row follows of that of the first one. -/
def folR (n : Nat) (x y : List Nat) : List Nat := List.zipWith (folN n) x y
def sayR (n : Nat) (r : List Nat) : Bool := r.length == n + 1 && (List.range (n + 1)).all fun v => decide (r.getD v 0 ≤ n) && r.getD v 0 % Nat.gcd v n == 0
def ownR (n : Nat) : List Nat := List.range (n + 1)
def zerR (n : Nat) : List Nat := List.replicate (n + 1) 0
theorem sayR_of {n : Nat} {r : List Nat} (h : sayR n r = true) : r.length = n + 1 ∧ ∀ v, v ≤ n → r.getD v 0 ≤ n ∧ Nat.gcd v n ∣ r.getD v 0 := by
  unfold sayR at h
  simp only [Bool.and_eq_true, beq_iff_eq, List.all_eq_true, List.mem_range, decide_eq_true_eq] at h
  exact ⟨h.1, fun v hv => ⟨(h.2 v (by omega)).1, Nat.dvd_of_mod_eq_zero (h.2 v (by omega)).2⟩⟩
theorem sayR_mk {n : Nat} {r : List Nat} (hl : r.length = n + 1) (h : ∀ v, v ≤ n → r.getD v 0 ≤ n ∧ Nat.gcd v n ∣ r.getD v 0) : sayR n r = true := by
  unfold sayR
  simp only [Bool.and_eq_true, beq_iff_eq, List.all_eq_true, List.mem_range, decide_eq_true_eq]
  exact ⟨hl, fun v hv => ⟨(h v (by omega)).1, Nat.mod_eq_zero_of_dvd (h v (by omega)).2⟩⟩
theorem folR_len {n : Nat} {x y : List Nat} (hx : x.length = n + 1) (hy : y.length = n + 1) : (folR n x y).length = n + 1 := by unfold folR; rw [List.length_zipWith, hx, hy, Nat.min_self]
theorem folR_at {n : Nat} {x y : List Nat} (hx : x.length = n + 1) (hy : y.length = n + 1) {v : Nat} (hv : v ≤ n) : (folR n x y).getD v 0 = folN n (x.getD v 0) (y.getD v 0) := by
  unfold folR
  rw [List.getD_eq_getElem?_getD, List.getElem?_zipWith, List.getElem?_eq_getElem (by omega), List.getElem?_eq_getElem (by omega), List.getD_eq_getElem?_getD, List.getElem?_eq_getElem (by omega), List.getD_eq_getElem?_getD, List.getElem?_eq_getElem (by omega)]
  rfl
theorem fol_dvd {n g a b : Nat} (hg : g ∣ n) (h1 : g ∣ a) (h2 : g ∣ b) : g ∣ folN n a b := by
  unfold folN
  split
  · exact Nat.dvd_add (Nat.dvd_sub hg h1) h2
  · exact hg
/-- Sayable rows are closed under following. -/
theorem say_fol {n : Nat} {x y : List Nat} (hx : sayR n x = true) (hy : sayR n y = true) : sayR n (folR n x y) = true := by
  obtain ⟨lx, ax⟩ := sayR_of hx
  obtain ⟨ly, ay⟩ := sayR_of hy
  refine sayR_mk (folR_len lx ly) fun v hv => ?_
  rw [folR_at lx ly hv]
  exact ⟨folN_le n _ _, fol_dvd (Nat.gcd_dvd_right v n) (ax v hv).2 (ay v hv).2⟩
theorem say_own (n : Nat) : sayR n (ownR n) = true := sayR_mk (by simp [ownR]) fun v hv => by
  have : (ownR n).getD v 0 = v := by unfold ownR; rw [List.getD_eq_getElem?_getD, List.getElem?_range (by omega)]; rfl
  rw [this]
  exact ⟨hv, Nat.gcd_dvd_left v n⟩
theorem say_zer (n : Nat) : sayR n (zerR n) = true := sayR_mk (by simp [zerR]) fun v hv => by
  have : (zerR n).getD v 0 = 0 := by unfold zerR; rw [List.getD_eq_getElem?_getD, List.getElem?_replicate]; split <;> rfl
  rw [this]
  exact ⟨Nat.zero_le _, Nat.dvd_zero _⟩

/-! Each sayable row is made of the two first ones: for 1 to 4 steps, step by step: the codes of the two rows and of the new one. -/
def certL1 : List (Nat × Nat × Nat) := [(1, 1, 3), (1, 0, 2)]
def certL2 : List (Nat × Nat × Nat) := [(5, 5, 26), (5, 0, 21), (21, 5, 8), (5, 21, 24), (8, 5, 23), (8, 0, 18), (24, 0, 2), (23, 0, 3), (24, 18, 20), (23, 3, 6)]
def certL3 : List (Nat × Nat × Nat) := [(27, 27, 255), (27, 0, 228), (228, 27, 47), (27, 228, 248), (47, 27, 235), (47, 0, 208), (47, 228, 244), (228, 47, 63), (248, 27, 31), (27, 248, 252), (248, 0, 7), (235, 0, 20), (47, 235, 251), (248, 235, 239), (47, 208, 224), (248, 208, 215), (244, 0, 11), (244, 208, 219), (63, 0, 192), (31, 208, 240), (63, 31, 223), (252, 0, 3), (252, 228, 231), (252, 208, 211), (252, 244, 247), (244, 7, 15), (63, 7, 199), (235, 20, 40), (63, 20, 212), (252, 20, 23), (251, 0, 4), (251, 228, 232), (251, 20, 24), (239, 27, 43), (239, 0, 16), (239, 20, 36), (252, 224, 227), (215, 20, 60), (63, 11, 203), (219, 20, 56), (252, 192, 195), (251, 192, 196), (252, 240, 243), (240, 192, 207), (223, 27, 59), (223, 0, 32), (223, 7, 39), (223, 20, 52), (239, 3, 19), (223, 3, 35), (231, 20, 44), (231, 192, 216), (211, 192, 236), (247, 0, 8), (247, 20, 28), (247, 192, 200), (247, 212, 220), (223, 23, 55), (247, 4, 12), (223, 16, 48), (247, 196, 204), (207, 3, 51)]
def certL4 : List (Nat × Nat × Nat) := [(194, 194, 3124), (194, 0, 2930), (2930, 194, 374), (194, 2930, 3110), (374, 194, 2944), (374, 0, 2750), (374, 2930, 3055), (2930, 374, 499), (3110, 194, 199), (194, 3110, 3115), (3110, 0, 14), (2944, 0, 180), (374, 2944, 3069), (3110, 2944, 2949), (2750, 374, 624), (374, 2750, 3000), (3110, 2750, 2764), (3055, 194, 249), (3055, 0, 69), (3055, 2930, 2999), (3055, 2750, 2819), (499, 0, 2625), (499, 2750, 2875), (199, 194, 3119), (199, 0, 2925), (199, 2930, 3105), (199, 2750, 3050), (499, 199, 2824), (194, 3115, 3120), (3115, 0, 9), (3115, 2930, 2939), (3115, 2750, 2759), (3115, 3055, 3064), (3110, 14, 24), (3055, 14, 74), (499, 14, 2639), (3115, 14, 19), (2944, 180, 360), (499, 180, 2805), (3115, 180, 189), (3069, 0, 55), (3069, 2930, 2985), (3110, 3069, 3074), (3069, 180, 235), (2949, 194, 369), (2949, 0, 175), (2949, 180, 355), (624, 194, 2694), (624, 0, 2500), (624, 374, 2874), (624, 199, 2699), (624, 14, 2514), (624, 180, 2680), (3000, 0, 124), (3110, 3000, 3014), (3115, 3000, 3009), (3110, 2764, 2774), (499, 2764, 2889), (3115, 2764, 2769), (2764, 180, 490), (624, 249, 2749), (199, 69, 2994), (2949, 69, 244), (624, 69, 2569), (2999, 194, 319), (2999, 0, 125), (2999, 199, 324), (2999, 14, 139), (2999, 180, 305), (2819, 180, 485), (3115, 2625, 2634), (2949, 2625, 2800), (3115, 2875, 2884), (3119, 0, 5), (3119, 2930, 2935), (3119, 2750, 2755), (3119, 3055, 3060), (3119, 180, 185), (3119, 3000, 3005), (3119, 2625, 2630), (3119, 2875, 2880), (199, 2925, 3100), (3115, 2925, 2934), (3069, 2925, 2980), (3115, 3105, 3114), (3105, 3000, 3019), (3105, 2625, 2644), (3105, 2875, 2894), (3115, 3050, 3059), (2824, 194, 494), (2824, 0, 300), (2824, 14, 314), (2824, 180, 480), (3120, 0, 4), (3120, 2750, 2754), (3120, 180, 184), (3120, 3000, 3004), (3120, 2625, 2629), (3120, 2875, 2879), (3120, 2925, 2929), (3120, 3105, 3109), (3120, 3050, 3054), (3069, 9, 64), (624, 9, 2509), (2999, 9, 134), (2824, 9, 309), (2939, 180, 365), (2939, 2625, 2810), (2759, 180, 495), (3069, 2759, 2814), (2759, 2625, 2990), (3064, 0, 60), (3064, 180, 240), (3064, 2625, 2685), (499, 24, 2649), (624, 24, 2524), (249, 24, 2899), (2999, 24, 149), (624, 74, 2574), (2639, 180, 615), (624, 19, 2519), (2999, 19, 144), (624, 360, 2860), (360, 2764, 3024), (2764, 360, 620), (2824, 360, 610), (3120, 360, 364), (3064, 360, 370), (3120, 2805, 2809), (3064, 2805, 2865), (624, 189, 2689), (2824, 189, 489), (3069, 55, 110), (2949, 55, 230), (624, 55, 2555), (3120, 55, 59), (3064, 55, 115), (3120, 2985, 2989), (3064, 2985, 2995), (3074, 0, 50), (3074, 69, 119), (3074, 2819, 2869), (3074, 2625, 2675), (3074, 2925, 2975), (3074, 2805, 2855), (3074, 189, 239), (3074, 55, 105), (624, 235, 2735), (3064, 235, 245), (2824, 369, 619), (2949, 175, 350), (2824, 175, 475), (3120, 175, 179), (3074, 175, 225), (2824, 355, 605), (3120, 355, 359), (2694, 0, 430), (2694, 14, 444), (2694, 9, 439), (2694, 24, 449), (3074, 2694, 2744), (3000, 2500, 2624), (3119, 2500, 2505), (3120, 2500, 2504), (3064, 2500, 2560), (3074, 2500, 2550), (2874, 0, 250), (2874, 14, 264), (2874, 9, 259), (2874, 24, 274), (2874, 19, 269), (2874, 175, 425), (2699, 9, 434), (2699, 189, 614), (2699, 175, 600), (3074, 2514, 2564), (3120, 2680, 2684), (3064, 2680, 2740), (3074, 2680, 2730), (3014, 2500, 2610), (3009, 2805, 2870), (3009, 55, 120), (3009, 2500, 2615), (3009, 2680, 2745), (2774, 2500, 2850), (2774, 2514, 2864), (2749, 194, 569), (2749, 0, 375), (2749, 199, 574), (2749, 14, 389), (2749, 180, 555), (2749, 9, 384), (2749, 24, 399), (2749, 19, 394), (2749, 189, 564), (2749, 175, 550), (2994, 0, 130), (2994, 180, 310), (3074, 2569, 2619), (3120, 125, 129), (2749, 125, 500), (2994, 125, 255), (2749, 139, 514), (2994, 305, 435), (2774, 2634, 2984), (3120, 2800, 2804), (3119, 5, 10), (2939, 5, 190), (3064, 5, 65), (189, 5, 2940), (369, 5, 2760), (2749, 5, 380), (2994, 5, 135), (244, 5, 2885), (2569, 5, 560), (369, 2935, 3065), (3064, 2755, 2815), (369, 2755, 3010), (2994, 185, 315), (3119, 2630, 2635), (3064, 2630, 2690), (3120, 3100, 3104), (2934, 5, 195), (2934, 2755, 2945), (2934, 3005, 3070), (2934, 2630, 2820), (3114, 2500, 2510), (3114, 5, 15), (3114, 2755, 2765), (3114, 3005, 3015), (3114, 2630, 2640), (3114, 2880, 2890), (3019, 9, 114), (3019, 2500, 2605), (3019, 2634, 2739), (3059, 2500, 2565), (3059, 5, 70), (3059, 2630, 2695), (3120, 300, 304), (3120, 480, 484), (3074, 4, 54), (2874, 4, 254), (2699, 4, 429), (2774, 4, 354), (2749, 4, 379), (2569, 4, 559), (3019, 4, 109), (2894, 4, 234), (3019, 2754, 2859), (2699, 184, 609), (3004, 2500, 2620), (3074, 2629, 2679), (2774, 2629, 2979), (3019, 2629, 2734), (2929, 125, 320), (3109, 2500, 2515), (3109, 125, 140), (3109, 5, 20), (3109, 2755, 2770), (3109, 3005, 3020), (3109, 2630, 2645), (3109, 2880, 2895), (3054, 2500, 2570), (3074, 2509, 2559), (3019, 2509, 2614), (2749, 134, 509), (2649, 4, 479), (2524, 4, 604), (2899, 2500, 2725), (2899, 4, 229), (2899, 2629, 2854), (2749, 149, 524), (2574, 4, 554), (2749, 144, 519), (3024, 0, 100), (3024, 2500, 2600), (3024, 4, 104), (3024, 2629, 2729), (3024, 2509, 2609), (2809, 125, 440), (2989, 125, 260), (620, 50, 2554), (3109, 430, 445), (2989, 430, 565), (2744, 125, 505), (2744, 5, 385), (2624, 4, 504), (3109, 2505, 2520), (3024, 2504, 2604), (3109, 250, 265), (2864, 250, 510), (2929, 375, 570), (3109, 375, 390), (3109, 130, 145), (3109, 500, 515), (3109, 255, 270), (2984, 255, 395), (2984, 380, 520)]
def certL : Nat → List (Nat × Nat × Nat)
  | 1 => certL1
  | 2 => certL2
  | 3 => certL3
  | 4 => certL4
  | _ => []
/-- The codes so far, or none if a step isn't one. -/
def certGo (n : Nat) : List (Nat × Nat × Nat) → List Nat → Option (List Nat)
  | [], acc => some acc
  | (c, d, r) :: rest, acc => if acc.contains c && acc.contains d && folR n (digs (n + 1) (n + 1) c) (digs (n + 1) (n + 1) d) == digs (n + 1) (n + 1) r then certGo n rest (r :: acc) else none
def certB (n : Nat) : Bool := match certGo n (certL n) [codeR (n + 1) (ownR n), 0] with
  | some acc => digs (n + 1) (n + 1) (codeR (n + 1) (ownR n)) == ownR n && digs (n + 1) (n + 1) 0 == zerR n && (List.range ((n + 1) ^ (n + 1))).all fun c => !sayR n (digs (n + 1) (n + 1) c) || acc.contains c
  | none => false
set_option maxRecDepth 100000 in
theorem cert_ok : ([1, 2, 3, 4].all certB) = true := by decide +kernel
theorem certGo_all {n : Nat} {P : List Nat → Prop} (hf : ∀ x y, P x → P y → P (folR n x y)) : ∀ (l : List (Nat × Nat × Nat)) (acc out : List Nat), (∀ c ∈ acc, P (digs (n + 1) (n + 1) c)) → certGo n l acc = some out → ∀ c ∈ out, P (digs (n + 1) (n + 1) c) := by
  intro l
  induction l with
  | nil => intro acc out h e; cases e; exact h
  | cons p rest ih =>
    obtain ⟨c, d, r⟩ := p
    intro acc out h e
    unfold certGo at e
    split at e
    · rename_i hc
      simp only [Bool.and_eq_true, beq_iff_eq, List.contains_eq_mem, decide_eq_true_eq] at hc
      refine ih (r :: acc) out (fun x hx => ?_) e
      rcases List.mem_cons.1 hx with rfl | hx
      · rw [← hc.2]; exact hf _ _ (h c hc.1.1) (h d hc.1.2)
      · exact h x hx
    · cases e
/-- What holds of both first rows and is kept by following holds of each sayable row. -/
theorem say_least {n : Nat} (hn : 1 ≤ n ∧ n ≤ 4) {P : List Nat → Prop} (ho : P (ownR n)) (hz : P (zerR n)) (hf : ∀ x y, P x → P y → P (folR n x y)) {r : List Nat} (h : sayR n r = true) : P r := by
  have k := cert_ok
  rw [List.all_eq_true] at k
  have k1 := k n (by simp; omega)
  unfold certB at k1
  cases e : certGo n (certL n) [codeR (n + 1) (ownR n), 0] with
  | none => rw [e] at k1; cases k1
  | some acc =>
    rw [e] at k1
    simp only [Bool.and_eq_true, beq_iff_eq] at k1
    have hall := certGo_all (P := P) hf (certL n) _ acc (fun c hc => by
      simp only [List.mem_cons, List.not_mem_nil, or_false] at hc
      rcases hc with rfl | rfl
      · rw [k1.1.1]; exact ho
      · rw [k1.1.2]; exact hz) e
    obtain ⟨hl, hv⟩ := sayR_of h
    have hd : ∀ d ∈ r, d < n + 1 := fun d hd => by
      obtain ⟨i, hi, rfl⟩ := List.mem_iff_getElem.1 hd
      have := (hv i (by omega)).1
      rw [List.getD_eq_getElem?_getD, List.getElem?_eq_getElem hi] at this
      exact Nat.lt_succ_of_le this
    obtain ⟨q1, q2⟩ := digs_code (n + 1) r hl hd
    have k2 := k1.2
    rw [List.all_eq_true] at k2
    have k3 := k2 (codeR (n + 1) r) (List.mem_range.2 q2)
    rw [q1, h] at k3
    simp only [Bool.not_true, Bool.false_or, List.contains_eq_mem, decide_eq_true_eq] at k3
    have := hall _ k3
    rw [q1] at this
    exact this

/-- The row of a formula: its value of v alone lies among those that v makes. -/
theorem val_dvd {n v : Nat} (hn : 1 ≤ n ∧ n ≤ 6) (hv : v ≤ n) : ∀ t : Tr, ((Nat.gcd v n : Nat) : Int) ∣ t.val n v v v := by
  have h : thrB (n : Int) v v v = true := thrB_mk (vokB_t (by omega)) (vokB_t (by omega)) (vokB_t (by omega))
  have gn : ((Nat.gcd v n : Nat) : Int) ∣ (n : Int) := Int.natCast_dvd_natCast.2 (Nat.gcd_dvd_right v n)
  have gv : ((Nat.gcd v n : Nat) : Int) ∣ (v : Int) := Int.natCast_dvd_natCast.2 (Nat.gcd_dvd_left v n)
  intro t
  induction t with
  | lt x => cases x <;> exact gv
  | tru b =>
    cases b
    · exact Int.dvd_zero _
    · exact gn
  | neg x ih =>
    show _ ∣ notW n _
    rw [notW_t (val_ok h x)]
    exact Int.dvd_sub gn ih
  | bin g x y ihx ihy =>
    have hx := val_ok h x
    have hy := val_ok h y
    cases g
    · show _ ∣ folW n _ _
      rw [fol_raw hx hy]
      split
      · exact Int.dvd_add (Int.dvd_sub gn ihx) ihy
      · exact gn
    · show _ ∣ plusW n _ _
      rw [plus_raw hx hy]
      split
      · exact Int.dvd_add ihx ihy
      · exact gn
    · show _ ∣ timesW n _ _
      rw [times_raw hx hy]
      split
      · exact Int.dvd_sub (Int.dvd_add ihx ihy) gn
      · exact Int.dvd_zero _
    · show _ ∣ lessW n _ _
      rw [less_raw hx hy]
      split
      · exact ihx
      · exact ihy
    · show _ ∣ greatW n _ _
      rw [great_raw hx hy]
      split
      · exact ihy
      · exact ihx

/-- The values that v makes. -/
theorem made_gcd : ([1, 2, 3, 4, 5, 6].all fun n => (List.range (n + 1)).all fun v => (List.range (n + 1)).all fun x => bit (madeN n (2 ^ v)) x == (x % Nat.gcd v n == 0)) = true := by decide +kernel
/-- How many rows may be said. -/
def cntS (n : Nat) : Nat → Nat
  | 0 => 1
  | v + 1 => cntS n v * (n / Nat.gcd v n + 1)
def sayN (n : Nat) : Nat := cntS n (n + 1)
theorem say_count : ([1, 2, 3, 4, 5, 6].map sayN) = [4, 12, 64, 300, 5184, 9408] := by decide +kernel

end Go.Proofs.YtakjlfcgciglgaaDoor
