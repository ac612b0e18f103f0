/- Walks of chapter 3: the program's test of one instruction, further cases. -/
import Derived.Test.YtnnhhbjbdmgpiaaDoorTrustX
import Derived.Test.YtnnhhbjbdmgpiaaDoorTrustY
namespace Go.Proofs.YtnnhhbjbdmgpiaaDoor
set_option maxRecDepth 100000
open Go.RowKit

theorem trust_any (l : List Cf.Ins) (A : Option Addr) (cap k gl : Nat) (op a b c : Int) (w : World) (hR : Codes w A l) (hm : l.length ≤ maxLen) (hx : l[k]? = some ⟨op, a, b, c⟩) (hg : w.cell? ⟨gl, 0, none⟩ = some (.slice A l.length cap)) :
    Calls Tryd.prog 50 #[.int .i64 k, .pointer (some ⟨gl, 0, none⟩)] w fun e w' => e = .returned (.bool (Cf.trustB l k ⟨op, a, b, c⟩)) ∧ Below w.heap.size w w' := by
  cases hl : Cf.ldst ⟨op, a, b, c⟩ with
  | true =>
    by_cases hb : b = 4
    · cases hs : Cf.inB op 1 8 with
      | false => exact trust_p2 l A cap k gl op a b c w hR hm hx hg hl hb hs
      | true =>
        cases hr : Cf.inB a 4 6 with
        | false => exact trust_p3 l A cap k gl op a b c w hR hm hx hg hl hb hs hr
        | true =>
          have h8 : op = 8 ∨ op = 9 := by simpa [Cf.ldst] using hl
          exact trust_w4 l A cap k gl op a b c w hR hm hx hg hl hb hs hr (fun h => by omega) (fun h => by omega)
    · exact trust_p1 l A cap k gl op a b c w hR hm hx hg hl hb
  | false =>
    cases hs : Cf.inB op 1 8 with
    | false => exact trust_p5 l A cap k gl op a b c w hR hm hx hg hl hs
    | true =>
      cases hr : Cf.inB a 4 6 with
      | false => exact trust_p6 l A cap k gl op a b c w hR hm hx hg hl hs hr
      | true =>
        by_cases n1 : op = 5 ∧ a = 4 ∧ b = 4 ∧ c = 5
        · obtain ⟨rfl, rfl, rfl, rfl⟩ := n1
          exact trust_w1 l A cap k gl w hR hm hx hg
        · by_cases n2 : op = 4 ∧ a = 4 ∧ c = 6
          · obtain ⟨rfl, rfl, rfl⟩ := n2
            by_cases hk1 : k + 1 < l.length
            · obtain ⟨op2, a2, b2, c2, hx2⟩ : ∃ op a b' c', l[k + 1]? = some ⟨op, a, b', c'⟩ := ⟨_, _, _, _, List.getElem?_eq_getElem hk1⟩
              by_cases n3 : op2 = 5 ∧ a2 = 4 ∧ b2 = 4 ∧ c2 = 5
              · obtain ⟨rfl, rfl, rfl, rfl⟩ := n3
                exact trust_w6 l A cap k gl b w hR hm hx hg hx2
              · exact trust_w5 l A cap k gl b w hR hm hx hg op2 a2 b2 c2 hx2 n3
            · exact trust_w3 l A cap k gl b w hR hm hx hg hk1
          · exact trust_w2 l A cap k gl op a b c w hR hm hx hg hl hs hr n1 n2
end Go.Proofs.YtnnhhbjbdmgpiaaDoor
