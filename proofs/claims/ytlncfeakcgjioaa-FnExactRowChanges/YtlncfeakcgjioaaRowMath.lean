/- Valid columns and rows, and what makes one table of another one: plain facts. -/
import Derived.Test.YtlncfeakcgjioaaColumnRows
import Derived.Test.YtlncfeakcgjioaaChangeNestM
import Derived.Test.YtlncfeakcgjioaaRowNestA
import Derived.Test.YtlncfeakcgjioaaKeyOK
namespace Go.Proofs.Ytlncfeakcgjioaa
open Go.RowKit
set_option linter.unusedVariables false

theorem all_bad {n k : Nat} {f : Nat → Bool} (hk : k < n) (hb : f k = false) : (List.range n).all f = false := by
  cases h : (List.range n).all f with
  | false => rfl
  | true => rw [List.all_eq_true.1 h k (by simpa using hk)] at hb; cases hb
theorem all_good {n : Nat} {f : Nat → Bool} (h : ∀ k, k < n → f k = true) : (List.range n).all f = true := List.all_eq_true.2 fun k hk => h k (by simpa using hk)

/-- The column at a place is valid, and behind the one ahead of it. -/
def cnOK (ls : List Cn) (i : Nat) : Bool := keyB (cnAt ls i).1 && (decide (i = 0) || ltN (cnAt ls (i - 1)).1 (cnAt ls i).1)
def colsOK (ls : List Cn) : Bool := decide (1 ≤ ls.length) && decide (ls.length ≤ 16) && (List.range ls.length).all (cnOK ls)
theorem colsOK_small {ls : List Cn} (h : ls.length < 1) : colsOK ls = false := by unfold colsOK; rw [decide_eq_false (by omega)]; rfl
theorem colsOK_big {ls : List Cn} (h : 16 < ls.length) : colsOK ls = false := by unfold colsOK; rw [decide_eq_false (p := ls.length ≤ 16) (by omega), Bool.and_false]; rfl
theorem colsOK_bad {ls : List Cn} {k : Nat} (hk : k < ls.length) (hb : cnOK ls k = false) : colsOK ls = false := by unfold colsOK; rw [all_bad hk hb, Bool.and_false]
theorem colsOK_of {ls : List Cn} (h1 : 1 ≤ ls.length) (h2 : ls.length ≤ 16) (h : ∀ k, k < ls.length → cnOK ls k = true) : colsOK ls = true := by unfold colsOK; rw [all_good h, decide_eq_true h1, decide_eq_true h2]; rfl

/-- A row's values are as many as there are columns, none too long. -/
def valsOK (n : Nat) (ss : List ByteArray) : Bool := decide (ss.length = n) && ss.all fun t => decide (t.size ≤ 200)
def rwAt (P : List Rw) (k : Nat) : Rw := P.getD k (ByteArray.empty, [])
theorem rwAt_of {P : List Rw} {k : Nat} {x : Rw} (h : P[k]? = some x) : rwAt P k = x := by unfold rwAt; rw [List.getD_eq_getElem?_getD, h]; rfl
theorem rwAt_get {P : List Rw} {k : Nat} (h : k < P.length) : P[k]? = some (rwAt P k) := by
  unfold rwAt
  rw [List.getD_eq_getElem?_getD, List.getElem?_eq_getElem h]
  rfl
/-- The row at a place is valid, and behind the one ahead of it. -/
def rwOK (n : Nat) (P : List Rw) (i : Nat) : Bool := keyB (rwAt P i).1 && (decide (i = 0) || ltN (rwAt P (i - 1)).1 (rwAt P i).1) && valsOK n (rwAt P i).2
def rowsB (n : Nat) (P : List Rw) : Bool := decide (P.length ≤ 2048) && (List.range P.length).all (rwOK n P)
theorem rowsB_big {n : Nat} {P : List Rw} (h : 2048 < P.length) : rowsB n P = false := by unfold rowsB; rw [decide_eq_false (by omega)]; rfl
theorem rowsB_bad {n : Nat} {P : List Rw} {k : Nat} (hk : k < P.length) (hb : rwOK n P k = false) : rowsB n P = false := by unfold rowsB; rw [all_bad hk hb, Bool.and_false]
theorem rowsB_of {n : Nat} {P : List Rw} (h2 : P.length ≤ 2048) (h : ∀ k, k < P.length → rwOK n P k = true) : rowsB n P = true := by unfold rowsB; rw [all_good h, decide_eq_true h2]; rfl
theorem rowsB_len {n : Nat} {P : List Rw} (h : rowsB n P = true) : P.length ≤ 2048 := by
  unfold rowsB at h
  rw [Bool.and_eq_true] at h
  exact of_decide_eq_true h.1
theorem rowsB_at {n : Nat} {P : List Rw} (h : rowsB n P = true) {k : Nat} (hk : k < P.length) : rwOK n P k = true := by
  unfold rowsB at h
  rw [Bool.and_eq_true] at h
  exact List.all_eq_true.1 h.2 k (by simpa using hk)
theorem rowsB_mem {n : Nat} {P : List Rw} (h : rowsB n P = true) {x : Rw} (hx : x ∈ P) : valsOK n x.2 = true := by
  obtain ⟨k, hk⟩ := List.getElem?_of_mem hx
  have hl := (List.getElem?_eq_some_iff.1 hk).1
  have := rowsB_at h hl
  unfold rwOK at this
  rw [Bool.and_eq_true, rwAt_of hk] at this
  exact this.2
theorem valsOK_len {n : Nat} {ss : List ByteArray} (h : valsOK n ss = true) : ss.length = n := by
  unfold valsOK at h
  rw [Bool.and_eq_true] at h
  exact of_decide_eq_true h.1

/-- Two lists of texts are alike. -/
def eqT : List ByteArray → List ByteArray → Bool
  | [], [] => true
  | x :: xs, y :: ys => (x.toList == y.toList) && eqT xs ys
  | _, _ => false
theorem eqT_len : ∀ {xs ys : List ByteArray}, xs.length ≠ ys.length → eqT xs ys = false
  | [], [], h => absurd rfl h
  | [], _ :: _, _ => rfl
  | _ :: _, [], _ => rfl
  | x :: xs, y :: ys, h => by
    unfold eqT
    rw [eqT_len (xs := xs) (ys := ys) (by simpa using h), Bool.and_false]
theorem eqT_bad : ∀ {xs ys : List ByteArray} {k : Nat} {x y : ByteArray}, xs[k]? = some x → ys[k]? = some y → (x.toList == y.toList) = false → eqT xs ys = false
  | [], _, k, _, _, h, _, _ => by simp at h
  | _ :: _, [], k, _, _, _, h, _ => by simp at h
  | a :: xs, b :: ys, 0, x, y, h, h', he => by
    simp at h h'
    subst h
    subst h'
    unfold eqT
    rw [he, Bool.false_and]
  | a :: xs, b :: ys, k + 1, x, y, h, h', he => by
    unfold eqT
    rw [eqT_bad (xs := xs) (ys := ys) (k := k) (by simpa using h) (by simpa using h') he, Bool.and_false]
theorem eqT_of : ∀ {xs ys : List ByteArray}, xs.length = ys.length → (∀ (k : Nat) (x y : ByteArray), xs[k]? = some x → ys[k]? = some y → (x.toList == y.toList) = true) → eqT xs ys = true
  | [], [], _, _ => rfl
  | [], _ :: _, h, _ => by simp at h
  | _ :: _, [], h, _ => by simp at h
  | a :: xs, b :: ys, hl, h => by
    unfold eqT
    rw [h 0 a b rfl rfl, eqT_of (xs := xs) (ys := ys) (by simpa using hl) (fun k x y hx hy => h (k + 1) x y (by simpa using hx) (by simpa using hy))]
    rfl

/-- What makes the rows b of the rows a. -/
def chg : Nat → List Rw → List Rw → List Cg
  | 0, _, _ => []
  | _ + 1, [], [] => []
  | f + 1, [], y :: b => (y.1, [], y.2) :: chg f [] b
  | f + 1, x :: a, [] => (x.1, x.2, []) :: chg f a []
  | f + 1, x :: a, y :: b =>
    if ltN x.1 y.1 then (x.1, x.2, []) :: chg f a (y :: b)
    else if ltN y.1 x.1 then (y.1, [], y.2) :: chg f (x :: a) b
    else if eqT x.2 y.2 then chg f a b
    else (x.1, x.2, y.2) :: chg f a b
def lnCg : List Cg → Nat
  | [] => 0
  | x :: r => x.2.1.length + x.2.2.length + lnCg r
theorem endCg_eq : ∀ (q : Nat) (P : List Cg), endCg q P = q + P.length + lnCg P
  | q, [] => by simp [endCg, lnCg]
  | q, x :: r => by rw [endCg, endCg_eq _ r, lnCg, List.length_cons]; omega
theorem chg_size : ∀ (f : Nat) (a b : List Rw), (chg f a b).length + lnCg (chg f a b) ≤ a.length + b.length + lnRw a + lnRw b
  | 0, _, _ => Nat.zero_le _
  | _ + 1, [], [] => Nat.zero_le _
  | f + 1, [], y :: b => by
    have := chg_size f [] b
    simp only [chg, List.length_cons, lnCg, lnRw, List.length_nil] at this ⊢
    omega
  | f + 1, x :: a, [] => by
    have := chg_size f a []
    simp only [chg, List.length_cons, lnCg, lnRw, List.length_nil] at this ⊢
    omega
  | f + 1, x :: a, y :: b => by
    have h1 := chg_size f a (y :: b)
    have h2 := chg_size f (x :: a) b
    have h3 := chg_size f a b
    unfold chg
    split
    · simp only [List.length_cons, lnCg, lnRw, List.length_nil] at h1 ⊢
      omega
    · split
      · simp only [List.length_cons, lnCg, lnRw, List.length_nil] at h2 ⊢
        omega
      · split
        · simp only [List.length_cons, lnRw] at h3 ⊢
          omega
        · simp only [List.length_cons, lnCg, lnRw] at h3 ⊢
          omega
theorem lnRw_mem : ∀ {P : List Rw} {x : Rw}, x ∈ P → x.2.length ≤ lnRw P
  | [], x, h => absurd h (by simp)
  | y :: r, x, h => by
    rcases List.mem_cons.1 h with rfl | h
    · unfold lnRw; omega
    · have := lnRw_mem h; unfold lnRw; omega
theorem lnCg_mem : ∀ {P : List Cg} {x : Cg}, x ∈ P → x.2.1.length ≤ lnCg P ∧ x.2.2.length ≤ lnCg P
  | [], x, h => absurd h (by simp)
  | y :: r, x, h => by
    rcases List.mem_cons.1 h with rfl | h
    · unfold lnCg; exact ⟨by omega, by omega⟩
    · have := lnCg_mem h; unfold lnCg; exact ⟨by omega, by omega⟩
end Go.Proofs.Ytlncfeakcgjioaa
