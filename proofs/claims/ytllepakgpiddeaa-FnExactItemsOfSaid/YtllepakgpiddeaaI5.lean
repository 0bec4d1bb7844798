/- The program's entries (commit 69a45cb): its functions answer as the model's. -/
import Derived.Test.YtllepakgpiddeaaS5b
import Derived.Test.YtllepakgpiddeaaI4
import Derived.Test.YtllepakgpiddeaaI2
namespace Go.Proofs.Ytllepakgpiddeaa
open Go.RowKit

theorem okEK_iff {s t c i k : Int} : okEK s t c i k ↔ okT s t k ∧ okI s c i :=
  ⟨fun h => ⟨⟨h.1.1, h.2⟩, h.1.2⟩, fun h => ⟨⟨h.1.1, h.2⟩, h.1.2⟩⟩

theorem okTI_iff {s t k i : Int} : okEK s t 0 i k ↔ okTI s t k i :=
  okEK_iff.trans ⟨fun h => ⟨h.1, h.2.2.2⟩, fun h => ⟨h.1, by decide, by decide, h.2⟩⟩

end Go.Proofs.Ytllepakgpiddeaa
