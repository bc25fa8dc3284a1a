/- The plain functions that layer lexis computes, on lists of bytes. Conditions: none. -/
import Derived.WalkKit
namespace Go.Proofs.Ytcedigkknjioeaa
namespace Lx

def opBytes : List UInt8 := [33, 35, 36, 37, 38, 42, 43, 46, 47, 60, 61, 62, 63, 64, 94, 124, 45, 126, 58, 92]
def spBytes : List UInt8 := [32, 9, 10, 13]

/-- what a byte can be: 1 a capital, 2 a letter, 4 in a name, 8 in a run, 16 a blank -/
def tr (b : UInt8) : Int :=
  if 65 ≤ b.toNat ∧ b.toNat ≤ 90 then 7
  else if 97 ≤ b.toNat ∧ b.toNat ≤ 122 then 6
  else if (48 ≤ b.toNat ∧ b.toNat ≤ 57) ∨ b.toNat = 95 ∨ b.toNat = 39 then 4
  else if opBytes.contains b then 8
  else if spBytes.contains b then 16
  else 0

def upB (b : UInt8) : Bool := decide (65 ≤ b.toNat ∧ b.toNat ≤ 90)
def loB (b : UInt8) : Bool := decide (97 ≤ b.toNat ∧ b.toNat ≤ 122)
def dgB (b : UInt8) : Bool := decide (48 ≤ b.toNat ∧ b.toNat ≤ 57)
def leB (b : UInt8) : Bool := upB b || loB b
def nmB (b : UInt8) : Bool := upB b || loB b || dgB b || decide (b.toNat = 95) || decide (b.toNat = 39)
def opB (b : UInt8) : Bool := opBytes.contains b
def spB (b : UInt8) : Bool := spBytes.contains b

/-- the test that belongs to a bit -/
def hasT (t : Int) (b : UInt8) : Bool :=
  if t = 1 then upB b else if t = 2 then leB b else if t = 4 then nmB b else if t = 8 then opB b else spB b

def run (t : Int) (l : List UInt8) : List UInt8 := l.takeWhile (hasT t)
def st (t : Int) (l : List UInt8) : Nat := (run t l).length

def isPre (l : List UInt8) : Bool := match l with
  | 45 :: 45 :: _ => true
  | _ => false

/-- what is left behind blanks and comments (true: within a comment) -/
def left : List UInt8 → Bool → List UInt8
  | [], _ => []
  | b :: l, true => if b = 10 then left l false else left l true
  | b :: l, false => if spB b then left l false else if b = 45 ∧ l.head? = some 45 then left l true else b :: l

def isNm (l : List UInt8) : Bool := match l with
  | [] => false
  | b :: _ => decide (l.length ≤ 16) && leB b && decide (st 4 l = l.length)
def isCap (l : List UInt8) : Bool := match l with
  | [] => false
  | b :: _ => isNm l && upB b

def words : List (List UInt8) := [
  [99, 97, 115, 101], [99, 108, 97, 115, 115], [100, 97, 116, 97], [100, 101, 114, 105, 118, 105, 110, 103], [100, 111], [101, 108, 115, 101], [102, 97, 109, 105, 108, 121],
  [102, 111, 114, 97, 108, 108], [105, 102], [105, 109, 112, 111, 114, 116], [105, 110], [105, 110, 102, 105, 120], [105, 110, 102, 105, 120, 108], [105, 110, 102, 105, 120, 114],
  [105, 110, 115, 116, 97, 110, 99, 101], [108, 101, 116], [109, 111, 100, 117, 108, 101], [110, 101, 119, 116, 121, 112, 101], [111, 102], [116, 104, 101, 110], [119, 104, 101, 114, 101]]

def runSigns : List (List UInt8) := [[61], [45, 62], [61, 62], [60, 45], [58], [124], [92], [64], [126], [33], [46]]
def byteSigns : List (List UInt8) := [[40], [41], [123], [125], [44], [59], [95], [39]]
def isSg (l : List UInt8) : Bool := runSigns.contains l || byteSigns.contains l
def isOpL (l : List UInt8) : Bool := decide (0 < l.length) && decide (l.length ≤ 16) && decide (st 8 l = l.length) && !isPre l && !isSg l

def maxNum : List UInt8 := [57, 50, 50, 51, 51, 55, 50, 48, 51, 54, 56, 53, 52, 55, 55, 53, 56, 48, 55]

def isNum (l : List UInt8) : Bool :=
  l.all dgB && !l.isEmpty && !(decide (l.head? = some 48) && decide (1 < l.length)) && decide (l.length ≤ 19) && (decide (l.length < 19) || (Op.bytesLess l maxNum || l == maxNum))

def kind (l : List UInt8) : Int :=
  if words.contains l then 6 else if isCap l then 2 else if isNm l then 1 else if isNum l then 4 else if isSg l then 5 else if isOpL l then 3 else 0

def tlen (l : List UInt8) : Nat := match l with
  | [] => 0
  | b :: r => if b = 39 then (match r with
      | [] => 0
      | c :: _ => if upB c then 1 else 0)
    else if nmB b then st 4 l else if opB b then st 8 l else 1

abbrev Tok := Int × List UInt8 × Nat

/-- the tokens up to the end or to the first place where none begins, and that place -/
def toks (L : Nat) : Nat → List UInt8 → List Tok × Option Nat
  | 0, _ => ([], none)
  | f + 1, l =>
    let r := left l false
    if r = [] then ([], none)
    else if kind (r.take (tlen r)) = 0 then ([], some (L - r.length))
    else
      let p := toks L f (r.drop (tlen r))
      ((kind (r.take (tlen r)), r.take (tlen r), L - r.length) :: p.1, p.2)

theorem hasT_tab : ∀ n, n < 256 → ∀ t ∈ [(1 : Int), 2, 4, 8, 16], (bits .and .i64 (tr (UInt8.ofNat n)) t != 0) = hasT t (UInt8.ofNat n) := by decide +kernel

theorem hasT_bits (b : UInt8) (t : Int) (h : t ∈ [(1 : Int), 2, 4, 8, 16]) : (bits .and .i64 (tr b) t != 0) = hasT t b := by
  have := hasT_tab b.toNat b.toNat_lt t h
  simpa using this

theorem left_len : ∀ (l : List UInt8) (c : Bool), (left l c).length ≤ l.length
  | [], _ => by simp [left]
  | b :: l, true => by
    unfold left
    split
    · have := left_len l false; simp; omega
    · have := left_len l true; simp; omega
  | b :: l, false => by
    unfold left
    split
    · have := left_len l false; simp; omega
    · split
      · have := left_len l true; simp; omega
      · simp

end Lx
end Go.Proofs.Ytcedigkknjioeaa
