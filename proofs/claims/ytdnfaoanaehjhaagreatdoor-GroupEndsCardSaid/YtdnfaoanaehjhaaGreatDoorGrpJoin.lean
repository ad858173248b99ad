/- What stands behind a region of several orders, shown once for them all. -/
import Derived.Test.YtdnfaoanaehjhaaGreatDoorH9
namespace Go.Proofs.YtdnfaoanaehjhaaGreatDoor

theorem join_wp {α β : Type} {F G : α → β → Prop} {P : Prop} (main : (∀ a b, F a b → G a b) → P) (key : ∀ a b, F a b → G a b) : P := main key

end Go.Proofs.YtdnfaoanaehjhaaGreatDoor
