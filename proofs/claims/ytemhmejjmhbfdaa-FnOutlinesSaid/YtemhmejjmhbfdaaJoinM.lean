/- Chains that are joined: mathematics. -/
import Derived.Test.YtemhmejjmhbfdaaChainS2
namespace Go.Proofs.Ytemhmejjmhbfdaa.sines
open Go.ChangeShapes Go.WideShapes Go.ChangeAt Go.RowKit Go.Proofs.Ytemhmejjmhbfdaa.spots Go.Proofs.Ytemhmejjmhbfdaa.irows Go.Proofs.Ytemhmejjmhbfdaa.pairsPlace
set_option linter.unusedSimpArgs false
set_option linter.unusedVariables false

def lastP (ps : List Pl) : Pl := pAt ps (ps.length - 1)
def closedB (ps : List Pl) : Bool := decide (4 ≤ ps.length) && decide (pAt ps 0 = lastP ps)
theorem closedB_no {ps : List Pl} (h : ¬ 4 ≤ ps.length) : closedB ps = false := by simp [closedB, h]
theorem closedB_eq {ps : List Pl} (h : 4 ≤ ps.length) : closedB ps = decide (pAt ps 0 = lastP ps) := by simp [closedB, h]
def codeG (ps : List Pl) : Int := if okC ps = true then (if closedB ps = true then 0 else 10) else 1
theorem codeG_of {ps : List Pl} (h : codeG ps = 0) : okC ps = true ∧ closedB ps = true := by
  unfold codeG at h
  split at h
  · split at h
    · exact ⟨by assumption, by assumption⟩
    · omega
  · omega
theorem closedB_len {ps : List Pl} (h : closedB ps = true) : 4 ≤ ps.length := by
  simp [closedB] at h; exact h.1
def isV (ps : List Pl) : Bool := okC ps && closedB ps
/-- What an edge adds to twice the area. -/
def edgeA (a b : Pl) : Int := a.1 * b.2 - b.1 * a.2
def areaN (ps : List Pl) : Nat → Int
  | 0 => 0
  | k + 1 => areaN ps k + edgeA (pAt ps k) (pAt ps (k + 1))
def areaI (ps : List Pl) : Int := areaN ps (ps.length - 1)
def areaV (ps : List Pl) : Int := if codeG ps = 0 then areaI ps else 0
theorem edgeA_bounds {a b : Pl} (ha : okP a = true) (hb : okP b = true) : -4000000 ≤ edgeA a b ∧ edgeA a b ≤ 4000000 ∧ 0 ≤ a.1 * b.2 ∧ a.1 * b.2 ≤ 4000000 ∧ 0 ≤ b.1 * a.2 ∧ b.1 * a.2 ≤ 4000000 := by
  obtain ⟨a1, a2, a3, a4⟩ := okP_of ha
  obtain ⟨b1, b2, b3, b4⟩ := okP_of hb
  have c := mul_bound (x := a.1) (y := b.2) (by omega) (by omega) (by omega) (by omega)
  have d := mul_bound (x := b.1) (y := a.2) (by omega) (by omega) (by omega) (by omega)
  have c0 := Int.mul_nonneg a1 b3
  have d0 := Int.mul_nonneg b1 a3
  unfold edgeA
  omega
theorem areaN_bounds {ps : List Pl} (ho : ∀ j, j < ps.length → okP (pAt ps j) = true) : ∀ k, k < ps.length → -4000000 * (k : Int) ≤ areaN ps k ∧ areaN ps k ≤ 4000000 * (k : Int)
  | 0, _ => by simp [areaN]
  | k + 1, h => by
    have h1 := areaN_bounds ho k (by omega)
    have h2 := edgeA_bounds (ho k (by omega)) (ho (k + 1) h)
    simp only [areaN]
    omega
theorem areaI_bounds {ps : List Pl} (h : okC ps = true) : -100000000 ≤ areaI ps ∧ areaI ps ≤ 100000000 := by
  obtain ⟨h1, h2, h3⟩ := okC_of h
  have := areaN_bounds h3 (ps.length - 1) (by omega)
  unfold areaI
  omega
/-- The chains joined by the first way that is possible. -/
def joinO (a b : List Pl) : Option (List Pl) :=
  if lastP a = pAt b 0 then some (a ++ b.drop 1)
  else if lastP a = lastP b then some (a ++ b.reverse.drop 1)
  else if pAt a 0 = lastP b then some (b ++ a.drop 1)
  else if pAt a 0 = pAt b 0 then some (b.reverse ++ a.drop 1)
  else none
def codeJ (a b : List Pl) : Int :=
  if (closedB a || closedB b) = true then 6
  else match joinO a b with
    | none => 10
    | some x => if okC x = true then 0 else 5
def joinR (a b : List Pl) : List Pl := if codeJ a b = 0 then (joinO a b).getD [] else []
theorem joinO_len {a b x : List Pl} (ha : 1 ≤ a.length) (hb : 1 ≤ b.length) (h : joinO a b = some x) : x.length + 1 = a.length + b.length := by
  unfold joinO at h
  split at h
  · cases h; simp; omega
  · split at h
    · cases h; simp; omega
    · split at h
      · cases h; simp; omega
      · split at h
        · cases h; simp; omega
        · cases h
def codeJ2 (a b : List Pl) : Int := if (okC a && okC b) = true then codeJ a b else 1
def joinV (a b : List Pl) : List Pl := if (okC a && okC b) = true then joinR a b else []
theorem joinR_len {a b : List Pl} : (joinR a b).length ≤ 24 := by
  unfold joinR
  split
  · rename_i h
    unfold codeJ at h
    split at h
    · omega
    · cases e : joinO a b with
      | none => simp
      | some x =>
        rw [e] at h
        simp only at h
        split at h
        · rename_i h2; exact (okC_of h2).2.1
        · omega
  · simp
theorem joinV_len {a b : List Pl} : (joinV a b).length ≤ 24 := by
  unfold joinV
  split
  · exact joinR_len
  · simp
/-- The chain turned so that one goes to the left. -/
def leftL (ps : List Pl) : List Pl := if codeG ps = 0 then (if areaI ps < 0 then ps.reverse else ps) else []
theorem leftL_len (ps : List Pl) : (leftL ps).length ≤ ps.length := by
  unfold leftL
  split
  · split <;> simp
  · simp
def moveP (x y : Int) (p : Pl) : Pl := (p.1 + x, p.2 + y)
def codeM (ps : List Pl) (x y : Int) : Int := if okC ps = true then (if (inB x (-2000) 2000 && inB y (-2000) 2000) = true then (if okC (ps.map (moveP x y)) = true then 0 else 5) else 2) else 1
def moveL (ps : List Pl) (x y : Int) : List Pl := if codeM ps x y = 0 then ps.map (moveP x y) else []
theorem moveL_len (ps : List Pl) (x y : Int) : (moveL ps x y).length ≤ ps.length := by
  unfold moveL
  split <;> simp
/-- Whether the line from a point to the right meets an edge. -/
def hitB (a b p : Pl) : Bool := if (decide (p.2 < a.2)) = (decide (p.2 < b.2)) then false else if b.2 < a.2 then decide (crossI a b p < 0) else decide (0 < crossI a b p)
def inN (ps : List Pl) (p : Pl) : Nat → Bool
  | 0 => false
  | k + 1 => inN ps p k ^^ hitB (pAt ps k) (pAt ps (k + 1)) p
def codeN (ps : List Pl) (p : Pl) : Int := if codeG ps = 0 then (if okP p = true then 0 else 2) else codeG ps
def insideV (ps : List Pl) (p : Pl) : Bool := decide (codeN ps p = 0) && inN ps p (ps.length - 1)
end Go.Proofs.Ytemhmejjmhbfdaa.sines
