import Derived.Test.YtboabidokkghbaaGreatGEncToGEnc2
import Derived.Test.YtboabidokkghbaaGreatCountToBack0
namespace Go.Proofs.YtboabidokkghbaaGreat
set_option linter.unusedVariables false
open Go.RowKit

section
variable {wr : World} {r : Nat} {ao : Option Addr} {N cap : Nat} {zs : List Int} {pos : Nat}
end
end Go.Proofs.YtboabidokkghbaaGreat
namespace Go.Proofs.YtboabidokkghbaaGreat
set_option linter.unusedVariables false
open Go.RowKit

theorem enc_pos (n : Int) : 0 < (C.enc 10 n).length := List.length_pos_iff.2 (C.enc_ne n)
theorem encS_pos (s : ByteArray) : 0 < (encS s).length := by rw [encS, List.length_append]; have := enc_pos (s.size : Int); omega
theorem encI_pos (n : Int) : 0 < (encI n).length := enc_pos n
theorem flat_ge {α : Type} (f : α → List Int) (hf : ∀ s, 0 < (f s).length) : ∀ l : List α, l.length ≤ (l.flatMap f).length
  | [] => Nat.le_refl _
  | s :: r => by
    have := flat_ge f hf r
    have := hf s
    rw [List.flatMap_cons, List.length_append, List.length_cons]
    omega
end Go.Proofs.YtboabidokkghbaaGreat
namespace Go.Proofs.YtboabidokkghbaaGreat
set_option linter.unusedVariables false
open Go.RowKit

end Go.Proofs.YtboabidokkghbaaGreat
namespace Go.Proofs.YtboabidokkghbaaGreat
set_option linter.unusedVariables false
open Go.RowKit

end Go.Proofs.YtboabidokkghbaaGreat
