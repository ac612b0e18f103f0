/- Plain mathematics of chapter 2: the three programs that the laws run. No Go in it. -/
import Derived.Test.YtamepbgmajeaeacDoorCpuP
namespace Go.Proofs.YtamepbgmajeaeacDoor.Cf

def zeros : List Int := [0, 0, 0, 0, 0, 0, 0, 0]
/-- n steps, and no end. -/
def onN (l : List Ins) : Nat → Mach → Bool
  | 0, _ => true
  | n + 1, m => match step l m with
    | .on m' => onN l n m'
    | .fin _ _ => false
theorem on_spent (l : List Ins) : ∀ (n : Nat) (m : Mach), onN l n m = true → ∀ j, j ≤ n → (runM l j m).1 = 2
  | _, _, _, 0, _ => rfl
  | 0, _, _, j + 1, hj => by omega
  | n + 1, m, h, j + 1, hj => by
    rw [onN] at h
    rw [runM]
    cases hs : step l m with
    | on m' =>
      rw [hs] at h
      exact on_spent l n m' h j (by omega)
    | fin e m' => rw [hs] at h; cases h
/-- RunsCount's program. -/
def cntL (k : Int) : List Ins := [⟨1, 1, 0, k⟩, ⟨1, 2, 0, 1⟩, ⟨3, 1, 1, 2⟩, ⟨11, 1, 0, 5⟩, ⟨10, 0, 0, 2⟩, ⟨15, 0, 0, 0⟩]
theorem cnt_all : ∀ k, k < 100 → onN (cntL (k + 1 : Nat)) (4 + 3 * k) ⟨zeros, [], [], [], 0⟩ = true ∧ (runM (cntL (k + 1 : Nat)) (5 + 3 * k) ⟨zeros, [], [], [], 0⟩).1 = 1 ∧ (runM (cntL (k + 1 : Nat)) (5 + 3 * k) ⟨zeros, [], [], [], 0⟩).2.regs.getD 1 0 = 0 := by
  decide +kernel
/-- RunsReckon's program. -/
def reckL : List Ins := [⟨2, 2, 0, 1⟩, ⟨3, 3, 2, 1⟩, ⟨4, 4, 0, 1⟩, ⟨6, 5, 0, 1⟩, ⟨5, 6, 4, 5⟩, ⟨7, 7, 0, 1⟩, ⟨15, 0, 0, 0⟩]
theorem or_of (x y : Nat) : (x &&& y) ||| (x ^^^ y) = x ||| y := by
  apply Nat.eq_of_testBit_eq
  intro i
  simp only [Nat.testBit_or, Nat.testBit_and, Nat.testBit_xor]
  cases x.testBit i <;> cases y.testBit i <;> rfl
theorem reck_run (x y : Int) (hx : 0 ≤ x ∧ x ≤ 65535) : ∃ p, runM reckL 100 ⟨[x, y, 0, 0, 0, 0, 0, 0], [], [], [], 0⟩ = (1, ⟨[x, y, (x + y) % 65536, x, andI x y, xorI x y, orI x y, if x < y then 1 else 0], [], [], [], p⟩) := by
  have h3 : ((x + y) % 65536 + 65536 - y) % 65536 = x := by omega
  have h6 : orI (andI x y) (xorI x y) = orI x y := by
    unfold orI andI xorI
    simp only [Int.toNat_natCast, or_of]
  refine ⟨7, ?_⟩
  rw [run_on reckL 99 _ ⟨[x, y, (x + y) % 65536, 0, 0, 0, 0, 0], [], [], [], 1⟩ rfl,
    run_on reckL 98 _ ⟨[x, y, (x + y) % 65536, ((x + y) % 65536 + 65536 - y) % 65536, 0, 0, 0, 0], [], [], [], 2⟩ rfl, h3,
    run_on reckL 97 _ ⟨[x, y, (x + y) % 65536, x, andI x y, 0, 0, 0], [], [], [], 3⟩ rfl,
    run_on reckL 96 _ ⟨[x, y, (x + y) % 65536, x, andI x y, xorI x y, 0, 0], [], [], [], 4⟩ rfl,
    run_on reckL 95 _ ⟨[x, y, (x + y) % 65536, x, andI x y, xorI x y, orI (andI x y) (xorI x y), 0], [], [], [], 5⟩ rfl, h6,
    run_on reckL 94 _ ⟨[x, y, (x + y) % 65536, x, andI x y, xorI x y, orI x y, if x < y then 1 else 0], [], [], [], 6⟩ rfl]
  exact run_fin reckL 93 _ _ 1 rfl
/-- RunsCall's program. -/
def callL (k : Int) : List Ins := [⟨1, 1, 0, k⟩, ⟨1, 3, 0, 1⟩, ⟨12, 0, 0, 4⟩, ⟨15, 0, 0, 0⟩, ⟨3, 1, 1, 3⟩, ⟨11, 1, 0, 7⟩, ⟨12, 0, 0, 4⟩, ⟨2, 2, 2, 3⟩, ⟨13, 0, 0, 0⟩]
theorem call_all : ∀ k, k < 32 → (if 16 < k + 1 then (runM (callL (k + 1 : Nat)) 2000 ⟨zeros, [], [], [], 0⟩).1 = 4 else (runM (callL (k + 1 : Nat)) 2000 ⟨zeros, [], [], [], 0⟩).1 = 1 ∧
    (runM (callL (k + 1 : Nat)) 2000 ⟨zeros, [], [], [], 0⟩).2.regs.getD 2 0 = (k + 1 : Nat) ∧ (runM (callL (k + 1 : Nat)) 2000 ⟨zeros, [], [], [], 0⟩).2.regs.getD 1 0 = 0) := by
  decide +kernel
theorem cnt_fault (k : Int) (h : 0 ≤ k ∧ k ≤ 65535) : fault (cntL k) = 0 := by
  simp [fault, cntL, faultIn, chk, opB, fldB, fitB, fmt, fmtTab, fld, lar, larTab, h.1, h.2]
theorem reck_fault : fault reckL = 0 := by decide +kernel
theorem call_fault (k : Int) (h : 0 ≤ k ∧ k ≤ 65535) : fault (callL k) = 0 := by
  simp [fault, callL, faultIn, chk, opB, fldB, fitB, fmt, fmtTab, fld, lar, larTab, h.1, h.2]
end Go.Proofs.YtamepbgmajeaeacDoor.Cf
