/-
  The walk of awake of layer 7, over the premise that the code answers as its plain functions say.
-/
import Derived.Test.YtgnhpjbkbefgpaaTreAwkA
namespace Go.Proofs.Ytgnhpjbkbefgpaa.tre
open Go.RowKit lex

/-- The world with the three trees of the examples, and where they lie. -/
def W8 (w : World) : World := (((((((w.alloc (.cells #[.string ⟨#[97]⟩, .string ⟨#[]⟩, .string ⟨#[98]⟩, .string ⟨#[]⟩] 39)).alloc (.cells #[.int .i64 2, .string ⟨#[]⟩, .slice (some ⟨w.heap.size, 0, none⟩) 2 2, .slice none 0 0, .slice none 0 0] 43)).alloc
  (.cells #[.string ⟨#[103]⟩, .bool false, .slice (some ⟨w.heap.size + 1, 0, none⟩) 1 1] 24)).alloc (.cells #[.string ⟨#[97]⟩, .string ⟨#[]⟩] 39)).alloc (.cells #[.int .i64 2, .string ⟨#[]⟩, .slice (some ⟨w.heap.size + 1 + 1 + 1, 0, none⟩) 1 1, .slice none 0 0, .slice none 0 0] 43)).alloc
  (.cells #[.string ⟨#[103]⟩, .bool false, .slice (some ⟨w.heap.size + 1 + 1 + 1 + 1, 0, none⟩) 1 1] 24)).alloc (.cells #[.int .i64 1, .string ⟨#[110, 111, 100, 101]⟩, .slice none 0 0, .slice none 0 0, .slice none 0 0] 43)).alloc
  (.cells #[.string ⟨#[103]⟩, .bool false, .slice (some ⟨w.heap.size + 1 + 1 + 1 + 1 + 1 + 1, 0, none⟩) 1 1] 24)
theorem w8_facts (w : World) : Below w.heap.size w (W8 w) ∧
    (at3 (W8 w) (w.heap.size + 1 + 1) ⟨#[103]⟩ false (.slice (some ⟨w.heap.size + 1, 0, none⟩) 1 1) ∧ TrV (W8 w) (.agg #[.string ⟨#[103]⟩, .bool false, .slice (some ⟨w.heap.size + 1, 0, none⟩) 1 1]) T1) ∧
    (at3 (W8 w) (w.heap.size + 1 + 1 + 1 + 1 + 1) ⟨#[103]⟩ false (.slice (some ⟨w.heap.size + 1 + 1 + 1 + 1, 0, none⟩) 1 1) ∧ TrV (W8 w) (.agg #[.string ⟨#[103]⟩, .bool false, .slice (some ⟨w.heap.size + 1 + 1 + 1 + 1, 0, none⟩) 1 1]) T2) ∧
    (at3 (W8 w) (w.heap.size + 1 + 1 + 1 + 1 + 1 + 1 + 1) ⟨#[103]⟩ false (.slice (some ⟨w.heap.size + 1 + 1 + 1 + 1 + 1 + 1, 0, none⟩) 1 1) ∧ TrV (W8 w) (.agg #[.string ⟨#[103]⟩, .bool false, .slice (some ⟨w.heap.size + 1 + 1 + 1 + 1 + 1 + 1, 0, none⟩) 1 1]) T3) := by
  obtain ⟨A1, h1⟩ : ∃ A, w.alloc (.cells #[.string ⟨#[97]⟩, .string ⟨#[]⟩, .string ⟨#[98]⟩, .string ⟨#[]⟩] 39) = A := ⟨_, rfl⟩
  have s1 : A1.heap.size = w.heap.size + 1 := by rw [← h1, World.size_alloc]
  have p1 : Prs A1 (.slice (some ⟨w.heap.size, 0, none⟩) 2 2) [([97], []), ([98], [])] := by rw [← h1]; exact prs_two w [97] [] [98] [] _ (by decide) (by decide) (by decide) (by decide)
  have b1 : Below w.heap.size w A1 := by rw [← h1]; exact al1 ..
  obtain ⟨A2, h2⟩ : ∃ A, A1.alloc (.cells #[.int .i64 2, .string ⟨#[]⟩, .slice (some ⟨w.heap.size, 0, none⟩) 2 2, .slice none 0 0, .slice none 0 0] 43) = A := ⟨_, rfl⟩
  have s2 : A2.heap.size = w.heap.size + 1 + 1 := by rw [← h2, World.size_alloc, s1]
  have k2 : Below A1.heap.size A1 A2 := by rw [← h2]; exact al1 ..
  have q2 : Sts A2 (.slice (some ⟨w.heap.size + 1, 0, none⟩) 1 1) T1.body := by
    have g := at5_new A1 2 (bb []) (.slice (some ⟨w.heap.size, 0, none⟩) 2 2) (.slice none 0 0) (.slice none 0 0) 43
    rw [s1] at g
    rw [show A1.alloc (.cells #[.int .i64 2, .string (bb []), .slice (some ⟨w.heap.size, 0, none⟩) 2 2, .slice none 0 0, .slice none 0 0] 43) = A2 from h2] at g
    exact sts_one' g (by decide) (p1.keep k2) (Prs.nil _) (Sts.nil _)
  obtain ⟨A3, h3⟩ : ∃ A, A2.alloc (.cells #[.string ⟨#[103]⟩, .bool false, .slice (some ⟨w.heap.size + 1, 0, none⟩) 1 1] 24) = A := ⟨_, rfl⟩
  have s3 : A3.heap.size = w.heap.size + 1 + 1 + 1 := by rw [← h3, World.size_alloc, s2]
  have k3 : Below A2.heap.size A2 A3 := by rw [← h3]; exact al1 ..
  have g3 : at3 A3 (w.heap.size + 1 + 1) ⟨#[103]⟩ false (.slice (some ⟨w.heap.size + 1, 0, none⟩) 1 1) := by rw [← h3, ← s2]; exact at3_new ..
  obtain ⟨A4, h4⟩ : ∃ A, A3.alloc (.cells #[.string ⟨#[97]⟩, .string ⟨#[]⟩] 39) = A := ⟨_, rfl⟩
  have s4 : A4.heap.size = w.heap.size + 1 + 1 + 1 + 1 := by rw [← h4, World.size_alloc, s3]
  have k4 : Below A3.heap.size A3 A4 := by rw [← h4]; exact al1 ..
  have p4 : Prs A4 (.slice (some ⟨w.heap.size + 1 + 1 + 1, 0, none⟩) 1 1) [([97], [])] := by rw [← h4, ← s3]; exact prs_one' A3 [97] [] _ (by decide) (by decide)
  obtain ⟨A5, h5⟩ : ∃ A, A4.alloc (.cells #[.int .i64 2, .string ⟨#[]⟩, .slice (some ⟨w.heap.size + 1 + 1 + 1, 0, none⟩) 1 1, .slice none 0 0, .slice none 0 0] 43) = A := ⟨_, rfl⟩
  have s5 : A5.heap.size = w.heap.size + 1 + 1 + 1 + 1 + 1 := by rw [← h5, World.size_alloc, s4]
  have k5 : Below A4.heap.size A4 A5 := by rw [← h5]; exact al1 ..
  have q5 : Sts A5 (.slice (some ⟨w.heap.size + 1 + 1 + 1 + 1, 0, none⟩) 1 1) T2.body := by
    have g := at5_new A4 2 (bb []) (.slice (some ⟨w.heap.size + 1 + 1 + 1, 0, none⟩) 1 1) (.slice none 0 0) (.slice none 0 0) 43
    rw [s4] at g
    rw [show A4.alloc (.cells #[.int .i64 2, .string (bb []), .slice (some ⟨w.heap.size + 1 + 1 + 1, 0, none⟩) 1 1, .slice none 0 0, .slice none 0 0] 43) = A5 from h5] at g
    exact sts_one' g (by decide) (p4.keep k5) (Prs.nil _) (Sts.nil _)
  obtain ⟨A6, h6⟩ : ∃ A, A5.alloc (.cells #[.string ⟨#[103]⟩, .bool false, .slice (some ⟨w.heap.size + 1 + 1 + 1 + 1, 0, none⟩) 1 1] 24) = A := ⟨_, rfl⟩
  have s6 : A6.heap.size = w.heap.size + 1 + 1 + 1 + 1 + 1 + 1 := by rw [← h6, World.size_alloc, s5]
  have k6 : Below A5.heap.size A5 A6 := by rw [← h6]; exact al1 ..
  have g6 : at3 A6 (w.heap.size + 1 + 1 + 1 + 1 + 1) ⟨#[103]⟩ false (.slice (some ⟨w.heap.size + 1 + 1 + 1 + 1, 0, none⟩) 1 1) := by rw [← h6, ← s5]; exact at3_new ..
  obtain ⟨A7, h7⟩ : ∃ A, A6.alloc (.cells #[.int .i64 1, .string ⟨#[110, 111, 100, 101]⟩, .slice none 0 0, .slice none 0 0, .slice none 0 0] 43) = A := ⟨_, rfl⟩
  have s7 : A7.heap.size = w.heap.size + 1 + 1 + 1 + 1 + 1 + 1 + 1 := by rw [← h7, World.size_alloc, s6]
  have k7 : Below A6.heap.size A6 A7 := by rw [← h7]; exact al1 ..
  have q7 : Sts A7 (.slice (some ⟨w.heap.size + 1 + 1 + 1 + 1 + 1 + 1, 0, none⟩) 1 1) T3.body := by
    have g := at5_new A6 1 (bb [110, 111, 100, 101]) (.slice none 0 0) (.slice none 0 0) (.slice none 0 0) 43
    rw [s6] at g
    rw [show A6.alloc (.cells #[.int .i64 1, .string (bb [110, 111, 100, 101]), .slice none 0 0, .slice none 0 0, .slice none 0 0] 43) = A7 from h7] at g
    exact sts_one' g (by decide) (Prs.nil _) (Prs.nil _) (Sts.nil _)
  obtain ⟨A8, h8⟩ : ∃ A, A7.alloc (.cells #[.string ⟨#[103]⟩, .bool false, .slice (some ⟨w.heap.size + 1 + 1 + 1 + 1 + 1 + 1, 0, none⟩) 1 1] 24) = A := ⟨_, rfl⟩
  have k8 : Below A7.heap.size A7 A8 := by rw [← h8]; exact al1 ..
  have g8 : at3 A8 (w.heap.size + 1 + 1 + 1 + 1 + 1 + 1 + 1) ⟨#[103]⟩ false (.slice (some ⟨w.heap.size + 1 + 1 + 1 + 1 + 1 + 1, 0, none⟩) 1 1) := by rw [← h8, ← s7]; exact at3_new ..
  have hW : W8 w = A8 := by unfold W8; rw [h1, h2, h3, h4, h5, h6, h7, h8]
  rw [hW]
  have m27 : ∀ (v : Value) (l : List St), Sts A2 v l → Sts A8 v l := fun v l h => ((((((h.keep k3).keep k4).keep k5).keep k6).keep k7).keep k8)
  refine ⟨below_keep k8 (below_keep k7 (below_keep k6 (below_keep k5 (below_keep k4 (below_keep k3 (below_keep k2 b1)))))), ⟨?_, _, rfl, by decide, m27 _ _ q2⟩, ⟨?_, _, rfl, by decide, ((q5.keep k6).keep k7).keep k8⟩, g8, _, rfl, by decide, q7.keep k8⟩
  · exact at3_keep (at3_keep (at3_keep (at3_keep (at3_keep g3 k4) k5) k6) k7) k8
  · exact at3_keep (at3_keep g6 k7) k8
end Go.Proofs.Ytgnhpjbkbefgpaa.tre
