/- Sealed texts, plainly: the eight bytes of a number, the sum of eight bytes, the stream of blocks, a text that is xored with it, what stands behind it. -/
import Derived.Test.YtnomplfnblmciaaKeySumWalk
import Derived.Test.YtnomplfnblmciaaStr
namespace Go.Proofs.Ytnomplfnblmciaa
open Go.RowKit
set_option linter.unusedVariables false

/-- A number in eight bytes. -/
def wide (n : Nat) : List Int := four (n / 4294967296) ++ four (n % 4294967296)
theorem wide_len (n : Nat) : (wide n).length = 8 := rfl
theorem wide_bytes {n : Nat} (h : n ≤ 1000000000000) : ∀ c ∈ wide n, 0 ≤ c ∧ c ≤ 255 := by
  intro c hc
  rcases List.mem_append.1 hc with h1 | h1
  · exact four_bytes (by omega) c h1
  · exact four_bytes (by omega) c h1
/-- The sum of a key and of bytes. -/
def ksum (ks bs : List Int) : List Int := four (keyX ks bs) ++ four (keyY ks bs)
theorem ksum_len (ks bs : List Int) : (ksum ks bs).length = 8 := rfl
theorem ksum_bytes (ks bs : List Int) : ∀ c ∈ ksum ks bs, 0 ≤ c ∧ c ≤ 255 := by
  intro c hc
  rcases List.mem_append.1 hc with h1 | h1
  · exact four_bytes (keyX_lt ks bs) c h1
  · exact four_bytes (keyY_lt ks bs) c h1
theorem keyB_ksum {ks bs : List Int} (h : 1 ≤ ks.length ∧ ks.length ≤ 64) (hb : bs.length ≤ 4096) : keyB ks bs = ksum ks bs ∧ keyC ks bs = 0 := key_ok h ⟨by omega, by omega⟩
/-- A block of the stream. -/
def blkL (key : List Int) (n i : Nat) : List Int := ksum key (wide n ++ wide i)
theorem blkL_len (key : List Int) (n i : Nat) : (blkL key n i).length = 8 := rfl
theorem blkL_bytes (key : List Int) (n i : Nat) : ∀ c ∈ blkL key n i, 0 ≤ c ∧ c ≤ 255 := ksum_bytes _ _
/-- The byte of the stream at a place. -/
def strmAt (key : List Int) (n i : Nat) : Int := (blkL key n (i / 8)).getD (i % 8) 0
theorem strmAt_get (key : List Int) (n i : Nat) : (blkL key n (i / 8))[i % 8]? = some (strmAt key n i) := by
  have h : i % 8 < (blkL key n (i / 8)).length := by rw [blkL_len]; omega
  unfold strmAt
  rw [List.getD_eq_getElem?_getD, List.getElem?_eq_getElem h]
  rfl
theorem strmAt_byte (key : List Int) (n i : Nat) : 0 ≤ strmAt key n i ∧ strmAt key n i ≤ 255 := blkL_bytes key n (i / 8) _ (List.mem_of_getElem? (strmAt_get key n i))
/-- Two bytes, xored. -/
def xorI (a b : Int) : Int := ((a.toNat ^^^ b.toNat : Nat) : Int)
theorem xorI_byte {a b : Int} (ha : 0 ≤ a ∧ a ≤ 255) (hb : 0 ≤ b ∧ b ≤ 255) : 0 ≤ xorI a b ∧ xorI a b ≤ 255 := by
  have := Nat.xor_lt_two_pow (x := a.toNat) (y := b.toNat) (n := 8) (by omega) (by omega)
  unfold xorI
  omega
theorem xor_u8 {a b : Int} (ha : 0 ≤ a ∧ a ≤ 255) (hb : 0 ≤ b ∧ b ≤ 255) : bits .xor .u8 a b = xorI a b := by
  obtain ⟨ha0, ha1⟩ := ha
  obtain ⟨hb0, hb1⟩ := hb
  obtain ⟨m, rfl⟩ := Int.eq_ofNat_of_zero_le ha0
  obtain ⟨n, rfl⟩ := Int.eq_ofNat_of_zero_le hb0
  have hx := Nat.xor_lt_two_pow (x := m) (y := n) (n := 8) (by omega) (by omega)
  unfold xorI
  rw [Int.toNat_natCast, Int.toNat_natCast]
  show IntKind.u8.wrap ((BitVec.ofInt 8 (m : Int) ^^^ BitVec.ofInt 8 (n : Int)).toNat : Int) = _
  rw [BitVec.toNat_xor]
  have e1 : (BitVec.ofInt 8 (m : Int)).toNat = m := by simp; omega
  have e2 : (BitVec.ofInt 8 (n : Int)).toNat = n := by simp; omega
  rw [e1, e2]
  rw [IntKind.wrap_u8]
  omega
theorem xorI_back {a b : Int} (ha : 0 ≤ a) (hb : 0 ≤ b) : xorI (xorI a b) b = a := by
  unfold xorI
  rw [Int.toNat_natCast, Nat.xor_assoc, Nat.xor_self, Nat.xor_zero]
  omega
/-- Bytes that are xored with the stream. -/
def maskAt (key : List Int) (n : Nat) (b : List Int) (i : Nat) : Int := xorI (b.getD i 0) (strmAt key n i)
def maskL (key : List Int) (n : Nat) (b : List Int) : List Int := (List.range b.length).map (maskAt key n b)
theorem maskL_len (key : List Int) (n : Nat) (b : List Int) : (maskL key n b).length = b.length := by simp [maskL]
theorem getD_byte {b : List Int} (hb : ∀ c ∈ b, 0 ≤ c ∧ c ≤ 255) (i : Nat) : 0 ≤ b.getD i 0 ∧ b.getD i 0 ≤ 255 := by
  rw [List.getD_eq_getElem?_getD]
  cases h : b[i]? with
  | none => simp
  | some c => exact hb c (List.mem_of_getElem? h)
theorem maskL_bytes (key : List Int) (n : Nat) {b : List Int} (hb : ∀ c ∈ b, 0 ≤ c ∧ c ≤ 255) : ∀ c ∈ maskL key n b, 0 ≤ c ∧ c ≤ 255 := by
  intro c hc
  obtain ⟨i, _, rfl⟩ := List.mem_map.1 hc
  exact xorI_byte (getD_byte hb i) (strmAt_byte key n i)
theorem maskL_back (key : List Int) (n : Nat) {b : List Int} (hb : ∀ c ∈ b, 0 ≤ c ∧ c ≤ 255) : maskL key n (maskL key n b) = b := by
  apply List.ext_getElem (by rw [maskL_len, maskL_len])
  intro i h1 h2
  have h3 : i < (maskL key n b).length := by rw [maskL_len]; exact h2
  have e1 : (maskL key n b)[i] = maskAt key n b i := by simp [maskL]
  have e2 : (maskL key n b).getD i 0 = maskAt key n b i := by rw [List.getD_eq_getElem?_getD, List.getElem?_eq_getElem h3, e1]; rfl
  have e3 : b.getD i 0 = b[i] := by rw [List.getD_eq_getElem?_getD, List.getElem?_eq_getElem h2]; rfl
  have e4 : (maskL key n (maskL key n b))[i] = maskAt key n (maskL key n b) i := by simp [maskL]
  rw [e4]
  unfold maskAt
  rw [e2]
  unfold maskAt
  rw [xorI_back (getD_byte hb i).1 (strmAt_byte key n i).1, e3]
/-- What stands behind a sealed text. -/
def sealL (key : List Int) (n : Nat) (body : List Int) : List Int := ksum key (wide n ++ body)
theorem sealL_len (key : List Int) (n : Nat) (body : List Int) : (sealL key n body).length = 8 := rfl
theorem sealL_bytes (key : List Int) (n : Nat) (body : List Int) : ∀ c ∈ sealL key n body, 0 ≤ c ∧ c ≤ 255 := ksum_bytes _ _
/-- What SealText answers of bytes. -/
def sealOK (key : List Int) (n : Int) (text : List Int) : Bool := decide (key.length = 8 ∧ 0 ≤ n ∧ n ≤ 1000000000000 ∧ text.length ≤ 200)
def sealB (key : List Int) (n : Int) (text : List Int) : List Int := if sealOK key n text then maskL key n.toNat text ++ sealL key n.toNat (maskL key n.toNat text) else []
def sealC (key : List Int) (n : Int) (text : List Int) : Int := if sealOK key n text then 0 else 4
theorem sealB_len (key : List Int) (n : Int) (text : List Int) : (sealB key n text).length ≤ 208 := by
  unfold sealB
  split
  · rename_i h
    have := of_decide_eq_true h
    rw [List.length_append, maskL_len, sealL_len]
    omega
  · simp
theorem sealB_bytes (key : List Int) (n : Int) {text : List Int} (h : ∀ c ∈ text, 0 ≤ c ∧ c ≤ 255) : ∀ c ∈ sealB key n text, 0 ≤ c ∧ c ≤ 255 := by
  unfold sealB
  split
  · intro c hc
    rcases List.mem_append.1 hc with h1 | h1
    · exact maskL_bytes _ _ h c h1
    · exact sealL_bytes _ _ _ c h1
  · intro c hc; simp at hc
theorem seal_yes {key : List Int} {n : Nat} {text : List Int} (h : key.length = 8) (hn : n ≤ 1000000000000) (ht : text.length ≤ 200) : sealB key (n : Int) text = maskL key n text ++ sealL key n (maskL key n text) ∧ sealC key (n : Int) text = 0 := by
  have h1 : sealOK key (n : Int) text = true := decide_eq_true ⟨h, by omega, by omega, ht⟩
  simp [sealB, sealC, h1]
theorem seal_no {key : List Int} {n : Int} {text : List Int} (h : ¬ (key.length = 8 ∧ 0 ≤ n ∧ n ≤ 1000000000000 ∧ text.length ≤ 200)) : sealB key n text = [] ∧ sealC key n text = 4 := by
  have h1 : sealOK key n text = false := decide_eq_false h
  simp [sealB, sealC, h1]
/-- What OpenText answers: the text's bytes, the code. -/
def openR (key : List Int) (n : Int) (sealed : List Int) : List Int × Int :=
  if key.length = 8 ∧ 0 ≤ n ∧ n ≤ 1000000000000 then
    if 8 ≤ sealed.length ∧ sealed.length ≤ 208 then
      if sealL key n.toNat (sealed.take (sealed.length - 8)) = sealed.drop (sealed.length - 8) then (maskL key n.toNat (sealed.take (sealed.length - 8)), 0) else ([], 10)
    else ([], 3)
  else ([], 4)
theorem open_range {key : List Int} {n : Int} {sealed : List Int} (h : ¬ (key.length = 8 ∧ 0 ≤ n ∧ n ≤ 1000000000000)) : openR key n sealed = ([], 4) := by unfold openR; rw [if_neg h]
theorem open_form {key : List Int} {n : Int} {sealed : List Int} (h : key.length = 8 ∧ 0 ≤ n ∧ n ≤ 1000000000000) (h2 : ¬ (8 ≤ sealed.length ∧ sealed.length ≤ 208)) : openR key n sealed = ([], 3) := by unfold openR; rw [if_pos h, if_neg h2]
theorem open_sum {key : List Int} {n : Nat} {sealed : List Int} (h : key.length = 8 ∧ n ≤ 1000000000000) (h2 : 8 ≤ sealed.length ∧ sealed.length ≤ 208) (h3 : ¬ sealL key n (sealed.take (sealed.length - 8)) = sealed.drop (sealed.length - 8)) : openR key (n : Int) sealed = ([], 10) := by
  unfold openR; rw [if_pos ⟨h.1, by omega, by omega⟩, if_pos h2, Int.toNat_natCast, if_neg h3]
theorem open_ok {key : List Int} {n : Nat} {sealed : List Int} (h : key.length = 8 ∧ n ≤ 1000000000000) (h2 : 8 ≤ sealed.length ∧ sealed.length ≤ 208) (h3 : sealL key n (sealed.take (sealed.length - 8)) = sealed.drop (sealed.length - 8)) : openR key (n : Int) sealed = (maskL key n (sealed.take (sealed.length - 8)), 0) := by
  unfold openR; rw [if_pos ⟨h.1, by omega, by omega⟩, if_pos h2, Int.toNat_natCast, if_pos h3]
theorem open_bytes (key : List Int) (n : Int) {sealed : List Int} (h : ∀ c ∈ sealed, 0 ≤ c ∧ c ≤ 255) : ∀ c ∈ (openR key n sealed).1, 0 ≤ c ∧ c ≤ 255 := by
  unfold openR
  split
  · split
    · split
      · exact maskL_bytes _ _ (fun c hc => h c (List.mem_of_mem_take hc))
      · intro c hc; simp at hc
    · intro c hc; simp at hc
  · intro c hc; simp at hc
/-- What was sealed comes back. -/
theorem open_seal {key : List Int} {n : Nat} {text : List Int} (h : key.length = 8) (hn : n ≤ 1000000000000) (ht : text.length ≤ 200) (hb : ∀ c ∈ text, 0 ≤ c ∧ c ≤ 255) : openR key (n : Int) (sealB key (n : Int) text) = (text, 0) := by
  rw [(seal_yes h hn ht).1]
  have hl : (maskL key n text ++ sealL key n (maskL key n text)).length = text.length + 8 := by rw [List.length_append, maskL_len, sealL_len]
  have e1 : (maskL key n text ++ sealL key n (maskL key n text)).take ((maskL key n text ++ sealL key n (maskL key n text)).length - 8) = maskL key n text := by
    rw [hl, Nat.add_sub_cancel, ← maskL_len key n text, List.take_left]
  have e2 : (maskL key n text ++ sealL key n (maskL key n text)).drop ((maskL key n text ++ sealL key n (maskL key n text)).length - 8) = sealL key n (maskL key n text) := by
    rw [hl, Nat.add_sub_cancel, ← maskL_len key n text, List.drop_left]
  rw [open_ok ⟨h, hn⟩ (by omega) (by rw [e1, e2]), e1, maskL_back key n hb]
theorem rd_add {C m c : Nat} {w : World} {ad : Addr} {cs : List Value} (h : Rd C w (.slice (some ad) m c) cs) : ∀ j u, cs[j]? = some u → w.cell? (ad.add j) = some u := by
  intro j u hj
  obtain ⟨ao, cap, e, _, _, _, hr⟩ := h
  simp only [Value.slice.injEq] at e
  obtain ⟨rfl, rfl, rfl⟩ := e
  have hj1 := (List.getElem?_eq_some_iff.1 hj).1
  obtain ⟨g, off, e, _, hc⟩ := hr (by omega)
  simp only [Option.some.injEq] at e
  subst e
  rw [Addr.add_lit]
  exact hc j u hj
/-- An append of a slice that has an address, in a region that draws its order. -/
theorem step_append_at {P : Program} {w : World} {ops : Array Oper} {o : Oper} {a : Act} {K : Act → World → Prop} {Q : Exit → Act → World → Prop} {E : Prop} (hgd : o.guard = none) (s x : Operand) (t : TypeId)
    (ho : o.op = .call { callee := .builtin .append, args := #[s, x], argTypes := #[t, t] })
    (base : Nat) (e : TypeId) (i : TypeInfo) (z : Value) (bytes : Nat) (ht : P.underlying t = some (.slice e)) (hi : P.info? e = some i) (hz : i.zero = some z)
    (hsize : i.size = 1) (hby : i.bytes = bytes) (hzs : z.cells.size = 1)
    (v : Value) (cs : List Value) (hs : a.eval s = v) (hown : Own e w base v cs) (ad : Addr) (m c : Nat) (news : List Value) (hx : a.eval x = .slice (some ad) m c) (hm : news.length = m) (hc : ∀ j u, news[j]? = some u → w.cell? (ad.add j) = some u) (h1 : ∀ u ∈ news, u.oneCell' = true)
    (h63 : cs.length + m ≤ maxLen) (hbytes : (cs.length + m) * bytes ≤ 140737488355328) (hbase : base ≤ w.heap.size)
    (h : ∀ v' w', Own e w' base v' (cs ++ news) → w.grownBy w' v.ownBlock → K (a.put o.dst v') w') : if Region.wanted o (yielded ops a.tmps) = true then Oper.wp P o a w K Q else E := by
  have hw : Region.wanted o (yielded ops a.tmps) = true := by simp [Region.wanted, hgd]
  rw [if_pos hw]
  subst hm
  exact wp_append_own w s x t ho base e i z 1 bytes ht hi hz hsize hby hzs (by decide) v _ cs hs hown ad news.length c news hx (by simp) hc h1 h63 hbytes hbase (fun v' w' h2 h3 _ => h v' w' (own_of h2) h3)
end Go.Proofs.Ytnomplfnblmciaa
