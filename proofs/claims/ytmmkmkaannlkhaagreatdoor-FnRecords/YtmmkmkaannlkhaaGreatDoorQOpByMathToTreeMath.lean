/- The bytes of an operation: plain facts. The bytes of a log: plain facts. The sums of a hash tree: plain facts. -/
import Derived.Test.YtmmkmkaannlkhaaGreatDoorQOpComesToOpSpecBase
import Derived.Test.YtmmkmkaannlkhaaGreatDoorQBaseToOwnType
import Derived.Test.YtmmkmkaannlkhaaGreatDoorQTextsBase
import Derived.Test.YtmmkmkaannlkhaaGreatDoorQInfoToLawAt
namespace Go.Proofs.YtmmkmkaannlkhaaGreatDoor
open Go.RowKit
set_option linter.unusedVariables false

/-- The numbers of an operation, in the order in which they stand in bytes. -/
def numsO (a s t k o n u pt pa : Int) (ds : List Int) : List Int := [a, s, t, k, o, ((foldS n : Nat) : Int), u, pt, pa] ++ ds
/-- Its bytes. -/
def opBy (a s t k o n u pt pa : Int) (ky tx : ByteArray) (ds : List Int) : List Int := putR (numsO a s t k o n u pt pa ds) ++ putN [ky, tx] 2
structure OpFacts (a s t k o n u pt pa : Int) (ky tx : ByteArray) (ds : List Int) : Prop where
  ha : 0 ≤ a ∧ a < 16
  hs : 1 ≤ s ∧ s ≤ 1000000000000
  ht : 1 ≤ t ∧ t ≤ 1000000000000
  hk : 1 ≤ k ∧ k ≤ 4
  ho : 1 ≤ o ∧ o ≤ 100
  hn : -1000000000000 ≤ n ∧ n ≤ 1000000000000
  hu : 0 ≤ u ∧ u < s
  hpt : 0 ≤ pt ∧ pt ≤ 1000000000000
  hpa : 0 ≤ pa ∧ pa < 16
  hky : ky.size ≤ 200
  htx : tx.size ≤ 200
  hds : vecOK ds = true
theorem says_facts {k n pt pa : Int} {ky tx : ByteArray} (h : saysOK k n pt pa ky tx = true) : (1 ≤ k ∧ k ≤ 4) ∧ (-1000000000000 ≤ n ∧ n ≤ 1000000000000) ∧ ky.size ≤ 200 ∧ tx.size ≤ 200 := by
  unfold saysOK at h
  split at h
  · simp only [Bool.and_eq_true, decide_eq_true_eq] at h
    omega
  · split at h
    · simp only [Bool.and_eq_true, decide_eq_true_eq, chOK] at h
      have h1 := size_nil h.2.1
      have h2 := size_nil h.2.2
      omega
    · split at h
      · simp only [Bool.and_eq_true, decide_eq_true_eq] at h
        have h1 := size_nil h.2.2.1
        have h2 := size_nil h.2.2.2
        omega
      · split at h
        · simp only [Bool.and_eq_true, decide_eq_true_eq] at h
          have h1 := size_nil h.2.2.2.1
          have h2 := size_nil h.2.2.2.2
          omega
        · simp at h
theorem op_facts {a s t k o n u pt pa : Int} {ky tx : ByteArray} {ds : List Int} (h : opB a s t k o n u pt pa ky tx ds = true) : OpFacts a s t k o n u pt pa ky tx ds := by
  unfold opB comesOK stOK okS stOK at h
  simp only [Bool.and_eq_true, Bool.or_eq_true, decide_eq_true_eq] at h
  obtain ⟨h1, h2, h3, h4, h5, h6, h7, h8⟩ := h
  obtain ⟨k1, k2, k3, k4⟩ := says_facts h8
  obtain ⟨⟨⟨⟨c1, c2⟩, c3⟩, c4⟩, c5⟩ := h1
  exact ⟨by omega, by omega, by omega, k1, by omega, k2, by omega, by omega, by omega, k3, k4, c4⟩
theorem nums_len {a s t k o n u pt pa : Int} {ds : List Int} (h : ds.length = 16) : (numsO a s t k o n u pt pa ds).length = 25 := by
  simp [numsO, h]
theorem nums_ok {a s t k o n u pt pa : Int} {ky tx : ByteArray} {ds : List Int} (h : OpFacts a s t k o n u pt pa ky tx ds) : runsOK (numsO a s t k o n u pt pa ds) = true := by
  obtain ⟨h1, h2⟩ := vecOK_get h.hds
  have hf := foldS_le (d := n) (by have := h.hn; omega) (by have := h.hn; omega)
  have hf2 : foldS n ≤ 2000000000000 := by
    have := h.hn
    unfold foldS
    split <;> omega
  refine runsOK_of fun j hj => ?_
  rw [nums_len h1] at hj
  unfold numsO nth
  by_cases hj9 : 9 ≤ j
  · obtain ⟨i, rfl⟩ : ∃ i, j = 9 + i := ⟨j - 9, by omega⟩
    have e : ([a, s, t, k, o, ((foldS n : Nat) : Int), u, pt, pa] ++ ds).getD (9 + i) 0 = ds.getD i 0 := by
      simp only [List.getD_eq_getElem?_getD]
      rw [List.getElem?_append_right (by simp)]
      simp
    rw [e]
    have := h2 i (by omega)
    rw [List.getD_eq_getElem?_getD, List.getElem?_eq_getElem (show i < ds.length by omega)]
    simp only [Option.getD_some]
    omega
  · have e : ([a, s, t, k, o, ((foldS n : Nat) : Int), u, pt, pa] ++ ds).getD j 0 = [a, s, t, k, o, ((foldS n : Nat) : Int), u, pt, pa].getD j 0 := by
      simp only [List.getD_eq_getElem?_getD]
      rw [List.getElem?_append_left (by simp; omega)]
    rw [e]
    have q1 := h.ha
    have q2 := h.hs
    have q3 := h.ht
    have q4 := h.hk
    have q5 := h.ho
    have q6 := h.hu
    have q7 := h.hpt
    have q8 := h.hpa
    match j, hj9 with
    | 0, _ => simp; omega
    | 1, _ => simp; omega
    | 2, _ => simp; omega
    | 3, _ => simp; omega
    | 4, _ => simp; omega
    | 5, _ => simp; omega
    | 6, _ => simp; omega
    | 7, _ => simp; omega
    | 8, _ => simp; omega
    | j + 9, hj => omega
theorem tot2 (ky tx : ByteArray) : tot [ky, tx] 2 = ky.size + tx.size := by simp [tot, txt]
theorem texts2 {ky tx : ByteArray} (h1 : ky.size ≤ 200) (h2 : tx.size ≤ 200) : (putN [ky, tx] 2).length ≤ 450 := by
  have := putN_len [ky, tx] (by simp) 2 (by rw [tot2]; omega) 2 (Nat.le_refl _)
  rw [tot2] at this
  omega
theorem texts2_ans {ky tx : ByteArray} (h1 : ky.size ≤ 200) (h2 : tx.size ≤ 200) : putTextsB [ky, tx] = putN [ky, tx] 2 ∧ putTextsC [ky, tx] = 0 :=
  putTexts_yes (ss := [ky, tx]) ⟨by simp, by show tot [ky, tx] 2 ≤ _; rw [tot2]; omega, by have := texts2 h1 h2; show (putN [ky, tx] 2).length ≤ _; omega⟩
theorem nums_ans {a s t k o n u pt pa : Int} {ky tx : ByteArray} {ds : List Int} (h : OpFacts a s t k o n u pt pa ky tx ds) : putRunsB (numsO a s t k o n u pt pa ds) = putR (numsO a s t k o n u pt pa ds) ∧ putRunsC (numsO a s t k o n u pt pa ds) = 0 :=
  putRuns_ok (by rw [nums_len (vecOK_get h.hds).1]; omega) (nums_ok h)
theorem opBy_len {a s t k o n u pt pa : Int} {ky tx : ByteArray} {ds : List Int} (h : OpFacts a s t k o n u pt pa ky tx ds) : (opBy a s t k o n u pt pa ky tx ds).length ≤ 1250 := by
  have h1 := putRF_len (nums_ok h) (by rw [nums_len (vecOK_get h.hds).1]; omega) (numsO a s t k o n u pt pa ds).length 0
  have h2 := texts2 h.hky h.htx
  have h3 := enc_len (n := (numsO a s t k o n u pt pa ds).length) (by rw [nums_len (vecOK_get h.hds).1]; omega)
  rw [nums_len (vecOK_get h.hds).1] at h1 h3
  unfold opBy putR
  simp only [List.length_append]
  rw [nums_len (vecOK_get h.hds).1]
  omega
end Go.Proofs.YtmmkmkaannlkhaaGreatDoor

namespace Go.Proofs.YtmmkmkaannlkhaaGreatDoor
open Go.RowKit
set_option linter.unusedVariables false

/-- The number at place c of an operation, as it stands in bytes; as it stands in memory. -/
def numAt (c : Nat) (x : Ov) : Int := nth (numsO x.a x.s x.t x.k x.o x.n x.u x.pt x.pa x.ds) c
def rawAt (c : Nat) (x : Ov) : Int := nth ([x.a, x.s, x.t, x.k, x.o, x.n, x.u, x.pt, x.pa] ++ x.ds) c
def colN (L : List Ov) (c : Nat) : List Int := L.map (numAt c)
def kyL (L : List Ov) : List ByteArray := L.map (·.ky)
def txL (L : List Ov) : List ByteArray := L.map (·.tx)
/-- The bytes of the first c columns of numbers; of all columns; of the log. -/
def colsB (L : List Ov) : Nat → List Int
  | 0 => []
  | c + 1 => colsB L c ++ putR (colN L c)
def logCols (L : List Ov) : List Int := colsB L 25 ++ putN (kyL L) L.length ++ putN (txL L) L.length
def logBy (L : List Ov) : List Int := logCols L ++ four (sumF 2166136261 (logCols L))

theorem ok_facts {x : Ov} (h : x.ok = true) : OpFacts x.a x.s x.t x.k x.o x.n x.u x.pt x.pa x.ky x.tx x.ds := op_facts h
theorem foldS_small {n : Int} (h : -1000000000000 ≤ n ∧ n ≤ 1000000000000) : foldS n ≤ 2000000000000 := by
  unfold foldS
  split <;> omega
theorem num_bd {x : Ov} (h : x.ok = true) (c : Nat) : 0 ≤ numAt c x ∧ numAt c x ≤ 2000000000000 := by
  have hF := ok_facts h
  obtain ⟨h1, h2⟩ := vecOK_get hF.hds
  have hf := foldS_small hF.hn
  unfold numAt numsO nth
  by_cases hj9 : 9 ≤ c
  · obtain ⟨i, rfl⟩ : ∃ i, c = 9 + i := ⟨c - 9, by omega⟩
    have e : ([x.a, x.s, x.t, x.k, x.o, ((foldS x.n : Nat) : Int), x.u, x.pt, x.pa] ++ x.ds).getD (9 + i) 0 = x.ds.getD i 0 := by
      simp only [List.getD_eq_getElem?_getD]
      rw [List.getElem?_append_right (by simp)]
      simp
    rw [e]
    by_cases hi : i < x.ds.length
    · have := h2 i hi
      rw [List.getD_eq_getElem?_getD, List.getElem?_eq_getElem hi]
      simp only [Option.getD_some]
      omega
    · rw [List.getD_eq_getElem?_getD, List.getElem?_eq_none (by omega)]
      simp
  · have e : ([x.a, x.s, x.t, x.k, x.o, ((foldS x.n : Nat) : Int), x.u, x.pt, x.pa] ++ x.ds).getD c 0 = [x.a, x.s, x.t, x.k, x.o, ((foldS x.n : Nat) : Int), x.u, x.pt, x.pa].getD c 0 := by
      simp only [List.getD_eq_getElem?_getD]
      rw [List.getElem?_append_left (by simp; omega)]
    rw [e]
    have q1 := hF.ha
    have q2 := hF.hs
    have q3 := hF.ht
    have q4 := hF.hk
    have q5 := hF.ho
    have q6 := hF.hu
    have q7 := hF.hpt
    have q8 := hF.hpa
    match c, hj9 with
    | 0, _ => simp; omega
    | 1, _ => simp; omega
    | 2, _ => simp; omega
    | 3, _ => simp; omega
    | 4, _ => simp; omega
    | 5, _ => simp; omega
    | 6, _ => simp; omega
    | 7, _ => simp; omega
    | 8, _ => simp; omega
    | j + 9, hj => omega
theorem col_len (L : List Ov) (c : Nat) : (colN L c).length = L.length := by simp [colN]
theorem col_at {L : List Ov} {c k : Nat} (hk : k < L.length) : (colN L c)[k]? = some (numAt c (ovAt L k)) := by
  unfold colN
  rw [List.getElem?_map, ovAt_get hk]
  rfl
theorem col_bd {L : List Ov} (h : ∀ x ∈ L, x.ok = true) (c k : Nat) : 0 ≤ nth (colN L c) k ∧ nth (colN L c) k ≤ 2000000000000 := by
  by_cases hk : k < L.length
  · unfold nth
    rw [List.getD_eq_getElem?_getD, col_at hk]
    exact num_bd (h _ (ovAt_mem hk)) c
  · unfold nth
    rw [List.getD_eq_getElem?_getD, List.getElem?_eq_none (by rw [col_len]; omega)]
    simp
theorem col_ok {L : List Ov} (h : ∀ x ∈ L, x.ok = true) (c : Nat) : runsOK (colN L c) = true := runsOK_of fun k _ => by
  have := col_bd h c k
  omega
theorem piece17 {ls : List Int} (h : ∀ k, 0 ≤ nth ls k ∧ nth ls k ≤ 2000000000000) (hl : ls.length ≤ 1024) (i : Nat) (hi : i < ls.length) : (runPiece ls i (runEnd ls i)).length ≤ 17 := by
  have h1 := h i
  have h2 := h (i + 1)
  have h3 := runEnd_bd hi
  have e1 := enc_len_le 6 (nth ls i).toNat (by omega)
  have e2 := enc_len_le 2 (runEnd ls i - i) (by omega)
  have e3 := enc_len_le 6 (foldS (nth ls (i + 1) - nth ls i)) (by
    have : foldS (nth ls (i + 1) - nth ls i) ≤ 4000000000000 := by
      unfold foldS
      split <;> omega
    omega)
  unfold runPiece
  simp only [List.length_append]
  split
  · omega
  · simp; omega
theorem putRF17 {ls : List Int} (h : ∀ k, 0 ≤ nth ls k ∧ nth ls k ≤ 2000000000000) (hl : ls.length ≤ 1024) : ∀ f i, (putRF ls f i).length ≤ 17 * f := by
  intro f
  induction f with
  | zero => intro i; simp [putRF]
  | succ f ih =>
    intro i
    simp only [putRF]
    split
    · rename_i hi
      have := ih (runEnd ls i)
      have := piece17 h hl i hi
      simp only [List.length_append]
      omega
    · simp
theorem putR17 {ls : List Int} (h : ∀ k, 0 ≤ nth ls k ∧ nth ls k ≤ 2000000000000) (hl : ls.length ≤ 1024) : (putR ls).length ≤ 17418 := by
  have := putRF17 h hl ls.length 0
  have := enc_len (n := ls.length) (by omega)
  unfold putR
  simp only [List.length_append]
  omega
theorem colsB_len {L : List Ov} (h : ∀ x ∈ L, x.ok = true) (hl : L.length ≤ 1024) : ∀ c, (colsB L c).length ≤ 17418 * c
  | 0 => by simp [colsB]
  | c + 1 => by
    have h1 := colsB_len h hl c
    have h2 := putR17 (col_bd h c) (by rw [col_len]; exact hl)
    simp only [colsB, List.length_append]
    omega
theorem tot_map (f : Ov → ByteArray) {L : List Ov} (h : ∀ x ∈ L, (f x).size ≤ 200) : ∀ k, tot (L.map f) k ≤ 200 * k
  | 0 => by simp [tot]
  | k + 1 => by
    have h1 := tot_map f h k
    have h2 : (txt (L.map f) k).size ≤ 200 := by
      unfold txt
      by_cases hk : k < L.length
      · rw [List.getD_eq_getElem?_getD, List.getElem?_map, List.getElem?_eq_getElem hk]
        exact h _ (List.getElem_mem hk)
      · rw [List.getD_eq_getElem?_getD, List.getElem?_eq_none (by rw [List.length_map]; omega)]
        show ByteArray.empty.size ≤ 200
        exact Nat.zero_le _
    simp only [tot]
    omega
theorem texts_len (f : Ov → ByteArray) {L : List Ov} (h : ∀ x ∈ L, (f x).size ≤ 200) (hl : L.length ≤ 1024) : tot (L.map f) L.length ≤ 204800 ∧ (putN (L.map f) L.length).length ≤ 225290 := by
  have h1 := tot_map f h L.length
  have h2 := putN_len (L.map f) (by rw [List.length_map]; omega) L.length (by omega) L.length (Nat.le_refl _)
  omega
theorem logCols_len {L : List Ov} (h : ∀ x ∈ L, x.ok = true) (hl : L.length ≤ 1024) : (logCols L).length ≤ 886030 := by
  have h1 := colsB_len h hl 25
  have h2 := (texts_len (·.ky) (fun x hx => (ok_facts (h x hx)).hky) hl).2
  have h3 := (texts_len (·.tx) (fun x hx => (ok_facts (h x hx)).htx) hl).2
  unfold logCols kyL txL
  simp only [List.length_append]
  omega
theorem encF_byte (k : Nat) : ∀ n, n ≤ k → ∀ c ∈ encF k n, 0 ≤ c ∧ c ≤ 255 := by
  induction k with
  | zero =>
    intro n hn c hc
    simp [encF] at hc
    omega
  | succ k ih =>
    intro n hn c hc
    by_cases h : n < 128
    · simp [encF, h] at hc
      omega
    · simp only [encF, h, if_false, List.mem_cons] at hc
      rcases hc with rfl | hc
      · omega
      · exact ih (n / 128) (by omega) c hc
theorem enc_byte (n : Nat) : ∀ c ∈ enc n, 0 ≤ c ∧ c ≤ 255 := encF_byte n n (Nat.le_refl _)
theorem putRF_byte (ls : List Int) : ∀ f i, ∀ c ∈ putRF ls f i, 0 ≤ c ∧ c ≤ 255 := by
  intro f
  induction f with
  | zero => intro i c hc; simp [putRF] at hc
  | succ f ih =>
    intro i c hc
    simp only [putRF] at hc
    split at hc
    · rcases List.mem_append.1 hc with hc | hc
      · unfold runPiece at hc
        rcases List.mem_append.1 hc with hc | hc
        · rcases List.mem_append.1 hc with hc | hc
          · exact enc_byte _ c hc
          · exact enc_byte _ c hc
        · split at hc
          · exact enc_byte _ c hc
          · simp at hc
      · exact ih _ c hc
    · simp at hc
theorem putR_byte (ls : List Int) : ∀ c ∈ putR ls, 0 ≤ c ∧ c ≤ 255 := fun c hc => by
  rcases List.mem_append.1 hc with hc | hc
  · exact enc_byte _ c hc
  · exact putRF_byte _ _ _ c hc
theorem putN_byte (ss : List ByteArray) : ∀ k, ∀ c ∈ putN ss k, 0 ≤ c ∧ c ≤ 255
  | 0 => enc_byte _
  | k + 1 => fun c hc => by
    rcases List.mem_append.1 hc with hc | hc
    · exact putN_byte ss k c hc
    · unfold piece at hc
      rcases List.mem_append.1 hc with hc | hc
      · rcases List.mem_append.1 hc with hc | hc
        · exact enc_byte _ c hc
        · exact enc_byte _ c hc
      · have := List.mem_of_mem_drop hc
        unfold strInts at this
        obtain ⟨b, _, rfl⟩ := List.mem_map.1 this
        have := b.toNat_lt
        omega
theorem colsB_byte (L : List Ov) : ∀ k, ∀ c ∈ colsB L k, 0 ≤ c ∧ c ≤ 255
  | 0 => fun c hc => by simp [colsB] at hc
  | k + 1 => fun c hc => by
    rcases List.mem_append.1 hc with hc | hc
    · exact colsB_byte L k c hc
    · exact putR_byte _ c hc
theorem logCols_byte (L : List Ov) : ∀ c ∈ logCols L, 0 ≤ c ∧ c ≤ 255 := fun c hc => by
  unfold logCols at hc
  rcases List.mem_append.1 hc with hc | hc
  · rcases List.mem_append.1 hc with hc | hc
    · exact colsB_byte _ _ c hc
    · exact putN_byte _ _ c hc
  · exact putN_byte _ _ c hc
end Go.Proofs.YtmmkmkaannlkhaaGreatDoor

namespace Go.Proofs.YtmmkmkaannlkhaaGreatDoor
open Go.RowKit
set_option linter.unusedVariables false

/-- The sum of an operation, of a leaf, of a node over two. -/
def opSum (x : Ov) : Nat := sumF 2166136261 (opBy x.a x.s x.t x.k x.o x.n x.u x.pt x.pa x.ky x.tx x.ds)
def leafB (ops : List Ov) : List Int := ops.flatMap fun x => four (opSum x)
def leafN (ops : List Ov) : Nat := if ops = [] then 0 else sumF 2166136261 (leafB ops)
def overN (x y : Nat) : Nat := if x = 0 ∧ y = 0 then 0 else sumF 2166136261 (four x ++ four y)
/-- The operations of a leaf. -/
def leafOf (own : List Ov) (place : Nat) : List Ov := (own.drop (4 * place)).take 4
/-- The sum of a node of an actor's tree. -/
def nodeN (own : List Ov) : Nat → Nat → Nat
  | 0, p => leafN (leafOf own p)
  | l + 1, p => overN (nodeN own l (2 * p)) (nodeN own l (2 * p + 1))
theorem leafN_lt (ops : List Ov) : leafN ops < 4294967296 := by
  unfold leafN
  split
  · omega
  · exact sumF_lt _ (by omega)
theorem overN_lt (x y : Nat) : overN x y < 4294967296 := by
  unfold overN
  split
  · omega
  · exact sumF_lt _ (by omega)
theorem nodeN_lt (own : List Ov) : ∀ l p, nodeN own l p < 4294967296
  | 0, p => leafN_lt _
  | l + 1, p => overN_lt _ _
/-- Behind the last operation all is nothing. -/
theorem nodeN_none (own : List Ov) : ∀ l p, own.length ≤ p * 4 * 2 ^ l → nodeN own l p = 0
  | 0, p, h => by
    have h1 : leafOf own p = [] := by
      unfold leafOf
      rw [List.drop_eq_nil_of_le (by omega)]
      rfl
    rw [nodeN, h1]
    rfl
  | l + 1, p, h => by
    rw [Nat.pow_succ] at h
    have e1 : p * 4 * (2 ^ l * 2) = 2 * p * 4 * 2 ^ l := by
      rw [Nat.mul_comm (2 ^ l) 2, ← Nat.mul_assoc, Nat.mul_right_comm p 4 2, Nat.mul_comm p 2]
    have h1 := nodeN_none own l (2 * p) (by omega)
    have h2 := nodeN_none own l (2 * p + 1) (by
      refine Nat.le_trans (show own.length ≤ 2 * p * 4 * 2 ^ l by omega) (Nat.mul_le_mul_right _ (by omega)))
    rw [nodeN, h1, h2]
    rfl
theorem leafB_snoc (ops : List Ov) (x : Ov) : leafB (ops ++ [x]) = leafB ops ++ four (opSum x) := by
  simp [leafB, List.flatMap_append]
theorem leafB_len (ops : List Ov) : (leafB ops).length = 4 * ops.length := by
  induction ops with
  | nil => rfl
  | cons x ops ih =>
    have : leafB (x :: ops) = four (opSum x) ++ leafB ops := by simp [leafB]
    rw [this, List.length_append, ih, List.length_cons]
    have : (four (opSum x)).length = 4 := rfl
    omega
theorem opSum_lt (x : Ov) : opSum x < 4294967296 := sumF_lt _ (by omega)
theorem leafB_byte (ops : List Ov) : ∀ c ∈ leafB ops, 0 ≤ c ∧ c ≤ 255 := fun c hc => by
  unfold leafB at hc
  obtain ⟨x, _, hx⟩ := List.mem_flatMap.1 hc
  exact four_bytes (opSum_lt x) c hx
theorem opBy_byte (a s t k o n u pt pa : Int) (ky tx : ByteArray) (ds : List Int) : ∀ c ∈ opBy a s t k o n u pt pa ky tx ds, 0 ≤ c ∧ c ≤ 255 := fun c hc => by
  rcases List.mem_append.1 hc with hc | hc
  · exact putR_byte _ c hc
  · exact putN_byte _ _ c hc
theorem fours_byte {x y : Nat} (hx : x < 4294967296) (hy : y < 4294967296) : ∀ c ∈ four x ++ four y, 0 ≤ c ∧ c ≤ 255 := fun c hc => by
  rcases List.mem_append.1 hc with hc | hc
  · exact four_bytes hx c hc
  · exact four_bytes hy c hc
end Go.Proofs.YtmmkmkaannlkhaaGreatDoor
