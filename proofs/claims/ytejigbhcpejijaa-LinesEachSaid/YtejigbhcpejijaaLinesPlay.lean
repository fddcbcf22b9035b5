/-
  LAYER 1, PLAIN MATHEMATICS: what is asked of a reader, word by word, and what it comes to (play of the statements).
-/
import Derived.Test.YtejigbhcpejijaaLinesDec
namespace Go.Proofs.Ytejigbhcpejijaa.Ln

structure OpD where
  kind : Int
  n : Int
  w : List UInt8

/-- one question at place t of a line: what is told and the place behind it; or a fault, its error and its byte -/
def oneV (ws : List (List UInt8)) (cs : List Nat) (o : OpD) (t : Nat) : Except (Int × Int) (List (List UInt8) × Nat) :=
  if o.kind = 1 then
    (if t < ws.length then .ok ([ws.getD t []], t + 1) else .error (1, 0))
  else if o.kind = 2 then
    (if t < ws.length ∧ ws.getD t [] = o.w then .ok ([[121, 101, 115]], t + 1) else .ok ([[110, 111]], t))
  else if o.kind = 3 then
    (if t < ws.length then (if numB (ws.getD t []) = false then .error (1, (cs.getD t 0 : Nat)) else if (o.n < (numN (ws.getD t []) : Int)) then .error (8, (cs.getD t 0 : Nat)) else .ok ([ws.getD t []], t + 1)) else .error (1, 0))
  else if o.kind = 4 then .error (o.n, if t = 0 then 0 else (cs.getD (t - 1) 0 : Nat))
  else if o.kind = 5 then .ok ([if t < ws.length then [109, 111, 114, 101] else [101, 110, 100]], t)
  else if o.kind = 6 then
    (if t < ws.length then (if ws.getD t [] = o.w then .ok ([ws.getD t []], t + 1) else .error (1, (cs.getD t 0 : Nat))) else .error (1, 0))
  else .ok ([], t)

theorem oneV_place {ws : List (List UInt8)} {cs : List Nat} {o : OpD} {t : Nat} {x : List (List UInt8)} {t' : Nat} (h : oneV ws cs o t = .ok (x, t')) (ht : t ≤ ws.length) : t' ≤ ws.length ∧ x.length ≤ 1 := by
  unfold oneV at h
  repeat' split at h
  all_goals first | (cases h; constructor <;> (try simp) <;> omega) | cases h

/-- the questions, one behind the other -/
def askF (ws : List (List UInt8)) (cs : List Nat) : List OpD → List (List UInt8) → Nat → Except ((Int × Int) × List (List UInt8)) (List (List UInt8) × Nat)
  | [], out, t => .ok (out, t)
  | o :: os, out, t =>
    match oneV ws cs o t with
    | .error e => .error (e, out)
    | .ok (x, t') => askF ws cs os (out ++ x) t'

theorem askF_ok {ws : List (List UInt8)} {cs : List Nat} {os : List OpD} {i : Nat} {o : OpD} {out x : List (List UInt8)} {t t' : Nat} (ho : os[i]? = some o) (h : oneV ws cs o t = .ok (x, t')) :
    askF ws cs (os.drop i) out t = askF ws cs (os.drop (i + 1)) (out ++ x) t' := by
  have hi := (List.getElem?_eq_some_iff.1 ho).1
  have e : os[i] = o := (List.getElem?_eq_some_iff.1 ho).2
  rw [List.drop_eq_getElem_cons hi, e]
  simp only [askF, h]
theorem askF_err {ws : List (List UInt8)} {cs : List Nat} {os : List OpD} {i : Nat} {o : OpD} {out : List (List UInt8)} {t : Nat} {e : Int × Int} (ho : os[i]? = some o) (h : oneV ws cs o t = .error e) :
    askF ws cs (os.drop i) out t = .error (e, out) := by
  have hi := (List.getElem?_eq_some_iff.1 ho).1
  have e' : os[i] = o := (List.getElem?_eq_some_iff.1 ho).2
  rw [List.drop_eq_getElem_cons hi, e']
  simp only [askF, h]
theorem askF_end {ws : List (List UInt8)} {cs : List Nat} {os : List OpD} {i : Nat} {out : List (List UInt8)} {t : Nat} (h : os.length ≤ i) : askF ws cs (os.drop i) out t = .ok (out, t) := by
  rw [List.drop_eq_nil_of_le h]; rfl

/-- what the document says of a line: what is told, and what ends it (no line: nothing does) -/
def playR (no : Nat) (ws : List (List UInt8)) (cs : List Nat) (os : List OpD) : List (List UInt8) × (Int × Int × Int) :=
  match askF ws cs os [] 0 with
  | .error ((c, col), out) => (out, (c, no, col))
  | .ok (out, t) => (out, if t < ws.length then (1, no, (cs.getD t 0 : Nat)) else (0, 0, 0))

end Go.Proofs.Ytejigbhcpejijaa.Ln
