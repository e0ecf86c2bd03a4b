/-
  Walk over solderlaw05.VectorJoins: all cases.
-/
import Derived.Test.YtlmnmiomfhgcdaaDoorVLawJoins1
import Derived.Test.YtlmnmiomfhgcdaaDoorVLawJoins2
import Derived.Test.YtlmnmiomfhgcdaaDoorVLawJoins3
namespace Go.Proofs.YtlmnmiomfhgcdaaDoor
open Go.RowKit

theorem vectorJoins_walk (a b c d e f : Int) (w : World) (hE : TabE w) :
    Calls Tryd.prog 6 #[.agg #[.int .i64 a, .int .i64 b], .agg #[.int .i64 c, .int .i64 d], .agg #[.int .i64 e, .int .i64 f]] w fun e w' => e = .returned (.bool true) ∧ Below w.heap.size w w' := by
  have hp : M.covB e f a b = false ∨ (M.covB e f a b = true ∧ M.covB e f c d = false) ∨ (M.covB e f a b = true ∧ M.covB e f c d = true) := by
    cases M.covB e f a b <;> cases M.covB e f c d <;> simp
  have y2 : M.mx a (M.mx c e) = M.mx (M.mx a c) e := (M.mx_assoc a c e).symm
  have y3 : M.mx b (M.mx d f) = M.mx (M.mx b d) f := (M.mx_assoc b d f).symm
  have v5 : M.covB e f a b = true → M.covB e f c d = true → M.covB e f (M.mx a c) (M.mx b d) = true := fun h1 h2 => M.cov_least h1 h2
  by_cases hk : M.cmpI a b c d = 3
  · exact joins_beside a b c d e f _ _ _ _ _ _ _ _ _ _ _ _ _ w hE rfl rfl (M.mx_comm c a) (M.mx_comm d b) (M.mx_self a) (M.mx_self b) rfl rfl rfl rfl y2 y3 (M.cov_join_l a b c d) (M.cov_join_r a b c d) rfl rfl v5 hp rfl hk rfl rfl rfl rfl
  · have hk' : (M.cmpI a b c d == 3) = false := by simpa using hk
    rcases M.join_one a b c d hk with ⟨h1, h2⟩ | ⟨h1, h2⟩
    · exact joins_first a b c d e f _ _ _ _ _ _ _ _ _ _ _ _ _ w hE rfl rfl (M.mx_comm c a) (M.mx_comm d b) (M.mx_self a) (M.mx_self b) rfl rfl rfl rfl y2 y3 (M.cov_join_l a b c d) (M.cov_join_r a b c d) rfl rfl v5 hp rfl hk' rfl rfl rfl rfl (by simpa using h1) (by simpa using h2)
    · by_cases hj : M.mx a c = a ∧ M.mx b d = b
      · exact joins_first a b c d e f _ _ _ _ _ _ _ _ _ _ _ _ _ w hE rfl rfl (M.mx_comm c a) (M.mx_comm d b) (M.mx_self a) (M.mx_self b) rfl rfl rfl rfl y2 y3 (M.cov_join_l a b c d) (M.cov_join_r a b c d) rfl rfl v5 hp rfl hk' rfl rfl rfl rfl (by simpa using hj.1) (by simpa using hj.2)
      · refine joins_second a b c d e f _ _ _ _ _ _ _ _ _ _ _ _ _ w hE rfl rfl (M.mx_comm c a) (M.mx_comm d b) (M.mx_self a) (M.mx_self b) rfl rfl rfl rfl y2 y3 (M.cov_join_l a b c d) (M.cov_join_r a b c d) rfl rfl v5 hp rfl hk' rfl rfl rfl rfl ?_ (by simpa using h1) (by simpa using h2)
        by_cases hq : M.mx a c = a
        · right
          refine ⟨by simpa using hq, ?_⟩
          have : ¬ M.mx b d = b := fun h => hj ⟨hq, h⟩
          simpa using this
        · left; simpa using hq
end Go.Proofs.YtlmnmiomfhgcdaaDoor
