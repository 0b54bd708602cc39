/-
  The two contracts of package lz: what Unpack answers stands in the text before; here what Pack answers, and what becomes of it. Conditions: no more than 20000 bytes are packed.
-/
import Derived.Test.YtlkpedknhjgdiaaG3
import Derived.Test.YtlkpedknhjgdiaaT3
namespace Go.Proofs.Ytlkpedknhjgdiaa
open Go.RowKit

theorem lzPack_exists : ∃ packOf : List Int → List Int,
    (∀ l : List Int, (∀ c ∈ l, 0 ≤ c ∧ c < 256) → l.length ≤ 20000 → unpackOf (packOf l) l.length = (l, 0) ∧ (packOf l).length ≤ l.length + l.length / 200 + 16 ∧ ∀ c ∈ packOf l, 0 ≤ c ∧ c < 256) ∧
    (∀ (c : Int) (n : Nat), 0 ≤ c → c < 256 → 1000 < n → n ≤ 20000 → (packOf (List.replicate n c)).length * 10 < n) ∧
    (∀ (a : Option Addr) (len cap : Nat) (l : List Int) (w : World), Bytes w a len l → len ≤ cap → (a = none → cap = 0) → len ≤ 20000 → Calls Try.prog 15 #[.slice a len cap] w (PackPost w (packOf l))) := by
  refine ⟨packOf, fun l hb hl => ?_, fun c n _ _ h1 h2 => packOf_run c n h1 h2, fun a len cap l w hB hcap hnil hlen => ?_⟩
  · have := packOf_good hb (by omega)
    exact ⟨this.back, this.bound, this.bytes⟩
  · have := lzPack_ok a len cap l w hB hcap hnil hlen
    unfold packOf
    rw [if_neg (by rw [hB.1]; omega), hB.1]
    exact this
end Go.Proofs.Ytlkpedknhjgdiaa
