/-
  Plain facts on digraphs (layer 14): validity, degrees, neighbors, reversed arcs, simple digraphs, induced ones; that reversing twice changes nothing, that a simple digraph stays, that degrees add up, that neighbors are symmetric. No function of the program is named here; conditions as each theorem states them.
-/
import Derived.WalkKit
namespace Go.Proofs.Ytncedgnpdojkkaa.dig

abbrev Ar := Int × Int
def okA (n : Int) (a : Ar) : Bool := decide (0 ≤ a.1) && decide (a.1 < n) && decide (0 ≤ a.2) && decide (a.2 < n)
theorem okA_iff {n : Int} {a : Ar} : okA n a = true ↔ 0 ≤ a.1 ∧ a.1 < n ∧ 0 ≤ a.2 ∧ a.2 < n := by
  unfold okA; simp only [Bool.and_eq_true, decide_eq_true_eq, and_assoc]
def validD (n : Int) (l : List Ar) : Bool := decide (0 ≤ n) && decide (n ≤ 64) && decide (l.length ≤ 256) && l.all (okA n)
theorem validD_iff {n : Int} {l : List Ar} : validD n l = true ↔ 0 ≤ n ∧ n ≤ 64 ∧ l.length ≤ 256 ∧ ∀ a ∈ l, okA n a = true := by
  unfold validD; simp only [Bool.and_eq_true, decide_eq_true_eq, and_assoc, List.all_eq_true]

/-! ### Degrees -/
def deg1 (a : Ar) (v : Int) : Int := (if a.1 = v then 1 else 0) + (if a.2 = v then 1 else 0)
def deg : List Ar → Int → Int
  | [], _ => 0
  | a :: t, v => deg1 a v + deg t v
def degV (n : Int) (l : List Ar) (v : Int) : Int := if validD n l = true then deg l v else 0
theorem deg1_rng (a : Ar) (v : Int) : 0 ≤ deg1 a v ∧ deg1 a v ≤ 2 := by
  unfold deg1; split <;> split <;> omega
theorem deg_rng : ∀ (l : List Ar) (v : Int), 0 ≤ deg l v ∧ deg l v ≤ 2 * l.length
  | [], v => by simp [deg]
  | a :: t, v => by
    have h1 := deg1_rng a v
    have h2 := deg_rng t v
    rw [deg, List.length_cons]; omega
theorem deg_take {l : List Ar} {k : Nat} (h : k < l.length) (v : Int) : deg (l.take (k + 1)) v = deg (l.take k) v + deg1 l[k] v := by
  induction l generalizing k with
  | nil => simp at h
  | cons a t ih =>
    cases k with
    | zero => simp [deg]
    | succ k =>
      rw [List.take_succ_cons, List.take_succ_cons, deg, deg, ih (by simpa using h)]
      simp; omega
/-- The sum of the degrees of the first vertices. -/
def degS (l : List Ar) : Nat → Int
  | 0 => 0
  | n + 1 => degS l n + deg l n
theorem degS_nil : ∀ n, degS [] n = 0
  | 0 => rfl
  | n + 1 => by rw [degS, degS_nil n, deg]; rfl
def one (x : Int) : Nat → Int
  | 0 => 0
  | n + 1 => one x n + (if x = (n : Int) then 1 else 0)
theorem one_in (x : Int) : ∀ n : Nat, one x n = if 0 ≤ x ∧ x < n then 1 else 0
  | 0 => by rw [one, if_neg (by omega)]
  | n + 1 => by
    rw [one, one_in x n]
    by_cases h1 : x = (n : Int)
    · rw [if_pos h1, if_neg (by omega), if_pos (by omega)]; rfl
    · rw [if_neg h1]
      by_cases h2 : 0 ≤ x ∧ x < n
      · rw [if_pos h2, if_pos (by omega)]; rfl
      · rw [if_neg h2, if_neg (by omega)]; rfl
theorem degS_cons (a : Ar) (t : List Ar) : ∀ n : Nat, degS (a :: t) n = one a.1 n + one a.2 n + degS t n
  | 0 => rfl
  | n + 1 => by
    rw [degS, degS_cons a t n, deg, degS, one, one, deg1]; omega
/-- The degrees add up to twice the number of arcs. -/
theorem degS_all {n : Nat} : ∀ {l : List Ar}, (∀ a ∈ l, okA n a = true) → degS l n = 2 * l.length
  | [], _ => by rw [degS_nil]; rfl
  | a :: t, h => by
    have h1 := okA_iff.1 (h a (List.mem_cons_self ..))
    rw [degS_cons, degS_all (fun b hb => h b (List.mem_cons_of_mem _ hb)), one_in, one_in, if_pos (by omega), if_pos (by omega), List.length_cons]
    omega

/-! ### Neighbors -/
def joined (a : Ar) (u v : Int) : Bool := (a.1 == u && a.2 == v) || (a.1 == v && a.2 == u)
theorem joined_iff {a : Ar} {u v : Int} : joined a u v = true ↔ a.1 = u ∧ a.2 = v ∨ a.1 = v ∧ a.2 = u := by
  unfold joined; simp only [Bool.or_eq_true, Bool.and_eq_true, beq_iff_eq]
theorem joined_turn (a : Ar) (u v : Int) : joined a u v = joined a v u := by
  unfold joined; exact Bool.or_comm ..
def near (l : List Ar) (u v : Int) : Bool := (u != v) && l.any (fun a => joined a u v)
theorem near_turn (l : List Ar) (u v : Int) : near l u v = near l v u := by
  unfold near
  have : (u != v) = (v != u) := by rw [Bool.eq_iff_iff, bne_iff_ne, bne_iff_ne]; exact ⟨Ne.symm, Ne.symm⟩
  rw [this]
  have : (fun a => joined a u v) = fun a => joined a v u := funext fun a => joined_turn a u v
  rw [this]
def nbrK (l : List Ar) (v : Int) (k : Nat) : List Int := ((List.range k).filter fun u : Nat => near l (u : Int) v).map fun u : Nat => (u : Int)
def nbrV (n : Int) (l : List Ar) (v : Int) : List Int := if validD n l = true then nbrK l v n.toNat else []
theorem nbrK_zero (l : List Ar) (v : Int) : nbrK l v 0 = [] := rfl
theorem nbrK_succ (l : List Ar) (v : Int) (k : Nat) : nbrK l v (k + 1) = nbrK l v k ++ (if near l (k : Int) v = true then [(k : Int)] else []) := by
  unfold nbrK
  rw [List.range_succ, List.filter_append, List.map_append]
  congr 1
  cases h : near l (k : Int) v <;> simp [List.filter, h]
theorem nbrK_mem {l : List Ar} {v : Int} {k : Nat} {x : Int} : x ∈ nbrK l v k ↔ 0 ≤ x ∧ x < k ∧ near l x v = true := by
  unfold nbrK
  simp only [List.mem_map, List.mem_filter, List.mem_range]
  constructor
  · rintro ⟨u, ⟨h1, h2⟩, rfl⟩; exact ⟨by omega, by omega, h2⟩
  · rintro ⟨h1, h2, h3⟩
    obtain ⟨u, rfl⟩ := Int.eq_ofNat_of_zero_le h1
    exact ⟨u, ⟨by omega, h3⟩, rfl⟩
/-- How many of the first vertices one arc joins with v. -/
theorem near_cons (a : Ar) (t : List Ar) (u v : Int) : near (a :: t) u v = ((u != v) && joined a u v || near t u v) := by
  unfold near; rw [List.any_cons, Bool.and_or_distrib_left]
def mine (a : Ar) (v : Int) : Nat → Nat
  | 0 => 0
  | k + 1 => mine a v k + (if ((k : Int) != v) && joined a (k : Int) v then 1 else 0)
theorem mine_le (a : Ar) (v : Int) : ∀ k : Nat, (mine a v k : Int) ≤ deg1 a v ∧ (mine a v k : Int) ≤ (if a.1 = v ∧ a.2 ≠ v ∧ a.2 < k ∨ a.2 = v ∧ a.1 ≠ v ∧ a.1 < k then 1 else 0)
  | 0 => by
    have := deg1_rng a v
    rw [mine]
    refine ⟨by simpa using this.1, ?_⟩
    split <;> simp
  | k + 1 => by
    obtain ⟨h1, h2⟩ := mine_le a v k
    rw [mine]
    by_cases hc : ((k : Int) != v && joined a (k : Int) v) = true
    · rw [if_pos hc]
      rw [Bool.and_eq_true, bne_iff_ne, joined_iff] at hc
      have h0 : mine a v k = 0 := by
        rw [if_neg (by omega)] at h2; omega
      rw [h0, if_pos (by omega)]
      refine ⟨?_, by simp⟩
      unfold deg1
      rcases hc.2 with q | q
      · rw [if_neg (by omega), if_pos (by omega)]; simp
      · rw [if_pos (by omega), if_neg (by omega)]; simp
    · rw [if_neg hc, Nat.add_zero]
      refine ⟨h1, Int.le_trans h2 ?_⟩
      by_cases hq : a.1 = v ∧ a.2 ≠ v ∧ a.2 < k ∨ a.2 = v ∧ a.1 ≠ v ∧ a.1 < k
      · rw [if_pos hq, if_pos (by omega)]; exact Int.le_refl _
      · rw [if_neg hq]; split <;> simp
theorem nbr_len (a : Ar) (t : List Ar) (v : Int) : ∀ k : Nat, (nbrK (a :: t) v k).length ≤ mine a v k + (nbrK t v k).length
  | 0 => by simp [nbrK_zero]
  | k + 1 => by
    have ih := nbr_len a t v k
    rw [nbrK_succ, nbrK_succ, List.length_append, List.length_append, mine, near_cons]
    cases h1 : ((k : Int) != v && joined a (k : Int) v) <;> cases h2 : near t (k : Int) v <;> simp <;> omega
/-- A vertex has at most as many neighbors as its degree. -/
theorem nbr_deg : ∀ (l : List Ar) (v : Int) (k : Nat), ((nbrK l v k).length : Int) ≤ deg l v
  | [], v, k => by
    have : nbrK [] v k = [] := by
      unfold nbrK near; simp
    rw [this, deg]; simp
  | a :: t, v, k => by
    have h1 := nbr_len a t v k
    have h2 := nbr_deg t v k
    have h3 := (mine_le a v k).1
    rw [deg]; omega

/-! ### Lists of different numbers -/
def chosen : List Int → List Int → Int → Int
  | _, [], _ => 0
  | done, x :: t, n => if x < 0 ∨ n ≤ x then 3 else if done.contains x = true then 6 else chosen (done ++ [x]) t n

/-! ### Reversed arcs -/
def turn (a : Ar) : Ar := (a.2, a.1)
def flipF (set : List Int) : Nat → List Ar → List Ar
  | _, [] => []
  | i, a :: t => (if set.contains (i : Int) = true then turn a else a) :: flipF set (i + 1) t
theorem flip_len (set : List Int) : ∀ (i : Nat) (l : List Ar), (flipF set i l).length = l.length
  | _, [] => rfl
  | i, a :: t => by rw [flipF, List.length_cons, List.length_cons, flip_len]
/-- Reversing twice changes nothing. -/
theorem flip_back (set : List Int) : ∀ (i : Nat) (l : List Ar), flipF set i (flipF set i l) = l
  | _, [] => rfl
  | i, a :: t => by
    rw [flipF, flipF, flip_back]
    congr 1
    split <;> rfl
theorem flip_ok (set : List Int) (n : Int) : ∀ (i : Nat) (l : List Ar), (flipF set i l).all (okA n) = l.all (okA n)
  | _, [] => rfl
  | i, a :: t => by
    rw [flipF, List.all_cons, List.all_cons, flip_ok]
    congr 1
    split
    · unfold okA turn; simp only [Bool.and_assoc]
      cases decide (0 ≤ a.1) <;> cases decide (a.1 < n) <;> cases decide (0 ≤ a.2) <;> cases decide (a.2 < n) <;> rfl
    · rfl
theorem flip_valid (set : List Int) (n : Int) (l : List Ar) : validD n (flipF set 0 l) = validD n l := by
  unfold validD; rw [flip_ok, flip_len]
theorem flip_take (set : List Int) {l : List Ar} : ∀ {k i : Nat} (h : k < l.length), flipF set i (l.take (k + 1)) = flipF set i (l.take k) ++ [if set.contains ((i + k : Nat) : Int) = true then turn l[k] else l[k]] := by
  induction l with
  | nil => intro k i h; simp at h
  | cons a t ih =>
    intro k i h
    cases k with
    | zero => simp [flipF]
    | succ k =>
      rw [List.take_succ_cons, List.take_succ_cons, flipF, flipF, ih (by simpa using h), List.cons_append, show i + 1 + k = i + (k + 1) by omega]
      simp

/-! ### Simple digraphs -/
def gone (done : List Ar) (a : Ar) : Bool := (a.1 == a.2) || done.any (fun b => joined b a.1 a.2)
def simA : List Ar → List Ar → List Ar
  | _, [] => []
  | done, a :: t => if gone done a = true then simA (done ++ [a]) t else a :: simA (done ++ [a]) t
def simI : List Ar → List Ar → Nat → List Int
  | _, [], _ => []
  | done, a :: t, k => if gone done a = true then -1 :: simI (done ++ [a]) t k else (k : Int) :: simI (done ++ [a]) t (k + 1)
theorem simA_len : ∀ (l done : List Ar), (simA done l).length ≤ l.length
  | [], _ => Nat.le_refl _
  | a :: t, done => by
    have := simA_len t (done ++ [a])
    rw [simA]; split <;> simp only [List.length_cons] <;> omega
theorem simA_mem : ∀ (l done : List Ar), ∀ x ∈ simA done l, x ∈ l
  | [], _, x, h => by cases h
  | a :: t, done, x, h => by
    rw [simA] at h
    split at h
    · exact List.mem_cons_of_mem _ (simA_mem t _ x h)
    · rcases List.mem_cons.1 h with rfl | h
      · exact List.mem_cons_self ..
      · exact List.mem_cons_of_mem _ (simA_mem t _ x h)
theorem simA_valid {n : Int} {l : List Ar} (h : validD n l = true) : validD n (simA [] l) = true := by
  obtain ⟨h1, h2, h3, h4⟩ := validD_iff.1 h
  exact validD_iff.2 ⟨h1, h2, Nat.le_trans (simA_len l []) h3, fun a ha => h4 a (simA_mem l [] a ha)⟩
/-- What was kept leaves out nothing the second time. -/
theorem simA_again : ∀ (l done kept : List Ar), (∀ x ∈ kept, x ∈ done) → simA kept (simA done l) = simA done l
  | [], _, _, _ => rfl
  | a :: t, done, kept, h => by
    rw [simA]
    by_cases hg : gone done a = true
    · rw [if_pos hg]
      exact simA_again t (done ++ [a]) kept (fun x hx => List.mem_append_left _ (h x hx))
    · rw [if_neg hg, simA]
      have hk : ¬ gone kept a = true := by
        intro q
        apply hg
        unfold gone at q ⊢
        rw [Bool.or_eq_true] at q ⊢
        rcases q with q | q
        · exact Or.inl q
        · obtain ⟨b, hb, q⟩ := List.any_eq_true.1 q
          exact Or.inr (List.any_eq_true.2 ⟨b, h b hb, q⟩)
      rw [if_neg hk, simA_again t (done ++ [a]) (kept ++ [a]) (fun x hx => by
        rcases List.mem_append.1 hx with q | q
        · exact List.mem_append_left _ (h x q)
        · exact List.mem_append_right _ q)]

/-! ### Induced digraphs -/
def placeI : List Int → Int → Nat → Int
  | [], _, _ => -1
  | y :: t, x, i => if y = x then (i : Int) else placeI t x (i + 1)
def indA (keep : List Int) : List Ar → List Ar
  | [] => []
  | a :: t => if 0 ≤ placeI keep a.1 0 ∧ 0 ≤ placeI keep a.2 0 then (placeI keep a.1 0, placeI keep a.2 0) :: indA keep t else indA keep t
def indI (keep : List Int) : List Ar → Nat → List Int
  | [], _ => []
  | a :: t, i => if 0 ≤ placeI keep a.1 0 ∧ 0 ≤ placeI keep a.2 0 then (i : Int) :: indI keep t (i + 1) else indI keep t (i + 1)
theorem place_rng : ∀ (l : List Int) (x : Int) (i : Nat), -1 ≤ placeI l x i ∧ placeI l x i < i + l.length
  | [], _, i => by rw [placeI]; simp; omega
  | y :: t, x, i => by
    have := place_rng t x (i + 1)
    rw [placeI]; split
    · simp; omega
    · rw [List.length_cons]; omega
def ints (n : Nat) : List Int := (List.range n).map fun k : Nat => (k : Int)
theorem place_ints (x : Int) : ∀ (n m : Nat), 0 ≤ x - m → x - m < n → placeI ((List.range' m n).map fun k : Nat => (k : Int)) x m = x
  | 0, m, h0, h1 => by omega
  | n + 1, m, h0, h1 => by
    rw [List.range'_succ, List.map_cons, placeI]
    by_cases h : (m : Int) = x
    · rw [if_pos h, h]
    · rw [if_neg h]; exact place_ints x n (m + 1) (by omega) (by omega)
theorem place_all {n : Nat} {x : Int} (h0 : 0 ≤ x) (h1 : x < n) : placeI (ints n) x 0 = x := by
  unfold ints
  rw [List.range_eq_range']
  exact place_ints x n 0 (by omega) (by omega)
/-- All vertices in order induce the digraph. -/
theorem ind_all {n : Nat} : ∀ {l : List Ar}, (∀ a ∈ l, okA n a = true) → indA (ints n) l = l
  | [], _ => rfl
  | a :: t, h => by
    have h1 := okA_iff.1 (h a (List.mem_cons_self ..))
    rw [indA, place_all h1.1 h1.2.1, place_all h1.2.2.1 h1.2.2.2, if_pos ⟨h1.1, h1.2.2.1⟩, ind_all (fun b hb => h b (List.mem_cons_of_mem _ hb))]
theorem ints_succ (n : Nat) : ints (n + 1) = ints n ++ [(n : Int)] := by unfold ints; rw [List.range_succ, List.map_append]; rfl
theorem ints_len (n : Nat) : (ints n).length = n := by unfold ints; simp
theorem ints_mem {n : Nat} {x : Int} : x ∈ ints n ↔ 0 ≤ x ∧ x < n := by
  unfold ints
  simp only [List.mem_map, List.mem_range]
  constructor
  · rintro ⟨k, h, rfl⟩; omega
  · rintro ⟨h0, h1⟩
    obtain ⟨k, rfl⟩ := Int.eq_ofNat_of_zero_le h0
    exact ⟨k, by omega, rfl⟩
theorem chosen_app : ∀ (a b done : List Int) (n : Int), chosen done (a ++ b) n = if chosen done a n = 0 then chosen (done ++ a) b n else chosen done a n
  | [], b, done, n => by rw [List.nil_append, chosen, if_pos rfl, List.append_nil]
  | x :: a, b, done, n => by
    rw [List.cons_append, chosen, chosen]
    split
    · rw [if_neg (by decide)]
    · split
      · rw [if_neg (by decide)]
      · rw [chosen_app a b, List.append_assoc]; rfl
theorem chosen_ints (m : Int) : ∀ n : Nat, (n : Int) ≤ m → chosen [] (ints n) m = 0
  | 0, _ => rfl
  | n + 1, h => by
    rw [ints_succ, chosen_app, chosen_ints m n (by omega), if_pos rfl, List.nil_append, chosen, if_neg (by omega), if_neg (by
      intro q
      have := ints_mem.1 (List.contains_iff_mem.1 q)
      omega), chosen]
end Go.Proofs.Ytncedgnpdojkkaa.dig
