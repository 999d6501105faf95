/- Three drawn values that devices write, take away and join: what the specification's l03Replicas answers. -/
import Derived.Deep.RegionHeld3
import Derived.Deep.Cut
import Derived.Deep.CutRange
import Derived.Test.YtfnlnigeaioocaaGreatQSrcToSrcMore
import Derived.Test.YtfnlnigeaioocaaGreatQSrcVecToSrcCtr
import Derived.Test.YtfnlnigeaioocaaGreatQSetRemImplToFindMath
import Derived.Test.YtfnlnigeaioocaaGreatQSetToldToMultiWrSpec
import Derived.Test.YtfnlnigeaioocaaGreatQL03JoinW
namespace Go.Proofs.YtfnlnigeaioocaaGreat
open Go.RowKit
set_option linter.unusedVariables false

/-- A slice in none of two blocks. -/
def OffB (x : Value) (b g : Nat) : Prop := ∀ a n c, x = .slice (some a) n c → a.block ≠ b ∧ a.block ≠ g
/-- A slice of nothing has no room. -/
def NilC (x : Value) : Prop := ∀ n c, x = .slice none n c → c = 0
/-- A value that can be read, in none of two blocks: sixteen counts, at most 256 entries. -/
def VgX (w : World) (b g : Nat) (u v : Value) (xs : List Int) (ls : List En) : Prop := xs.length = 16 ∧ ls.length ≤ 256 ∧ Rd w.heap.size w u (xs.map (Value.int .i64)) ∧ RdE w.heap.size w v ls ∧ OffB u b g ∧ OffB v b g ∧ NilC v
def Vg (w : World) (b g : Nat) (u v : Value) : Prop := ∃ (xs : List Int) (ls : List En), VgX w b g u v xs ls
/-- All blocks but two are as they were. -/
def Chg (w w' : World) (b g : Nat) : Prop := w.heap.size ≤ w'.heap.size ∧ ∀ i, i < w.heap.size → i ≠ b → i ≠ g → w'.heap[i]? = w.heap[i]?
theorem rd_same {C : Nat} {w w' : World} {v : Value} {cs : List Value} (h : Rd C w v cs) (hs : ∀ a n c, v = .slice (some a) n c → w'.heap[a.block]? = w.heap[a.block]?) : Rd C w' v cs := by
  obtain ⟨ao, cap, rfl, h1, h2, h3, h4⟩ := h
  refine ⟨ao, cap, rfl, h1, h2, h3, fun hp => ?_⟩
  obtain ⟨g, off, rfl, hg, hc⟩ := h4 hp
  have hb := hs _ _ _ rfl
  exact ⟨g, off, rfl, hg, fun j u hj => (World.cell?_of_block (a := ⟨g, off + j, none⟩) hb).trans (hc j u hj)⟩
theorem rdE_same {C : Nat} {w w' : World} {v : Value} {ls : List En} (h : RdE C w v ls) (hs : ∀ a n c, v = .slice (some a) n c → w'.heap[a.block]? = w.heap[a.block]?) : RdE C w' v ls := by
  obtain ⟨ao, cap, rfl, h4⟩ := h
  refine ⟨ao, cap, rfl, fun hp => ?_⟩
  obtain ⟨g, off, rfl, hg, hc⟩ := h4 hp
  refine ⟨g, off, rfl, hg, fun k hk => ?_⟩
  obtain ⟨c0, c1, c2⟩ := hc k hk
  have hb := hs _ _ _ rfl
  exact ⟨(World.cell?_of_block (a := ⟨g, off + k * 3, none⟩) hb).trans c0, (World.cell?_of_block (a := ⟨g, off + (k * 3 + 1), none⟩) hb).trans c1, (World.cell?_of_block (a := ⟨g, off + (k * 3 + 2), none⟩) hb).trans c2⟩
theorem rdE_mono {C C' : Nat} {w : World} {v : Value} {ls : List En} (h : RdE C w v ls) (hc : C ≤ C') : RdE C' w v ls := by
  obtain ⟨ao, cap, rfl, h4⟩ := h
  refine ⟨ao, cap, rfl, fun hp => ?_⟩
  obtain ⟨g, off, rfl, hg, hcc⟩ := h4 hp
  exact ⟨g, off, rfl, by omega, hcc⟩
/-- A slice that reads as something lies in a block that is there, or reads as nothing. -/
theorem VgX.chg {w w' : World} {b g : Nat} {u v : Value} {xs : List Int} {ls : List En} (h : VgX w b g u v xs ls) (hc : Chg w w' b g) : VgX w' b g u v xs ls := by
  obtain ⟨h1, h2, h3, h4, h5, h6, h7⟩ := h
  refine ⟨h1, h2, ?_, ?_, h5, h6, h7⟩
  · obtain ⟨ao, cap, rfl, k1, k2, k3, k4⟩ := h3
    refine ⟨ao, cap, rfl, k1, k2, k3, fun hp => ?_⟩
    obtain ⟨d, off, rfl, hg, hcc⟩ := k4 hp
    have ho := h5 _ _ _ rfl
    exact ⟨d, off, rfl, Nat.lt_of_lt_of_le hg hc.1, fun j x hj => (World.cell?_of_block (a := ⟨d, off + j, none⟩) (hc.2 d hg ho.1 ho.2)).trans (hcc j x hj)⟩
  · obtain ⟨ao, cap, rfl, k4⟩ := h4
    refine ⟨ao, cap, rfl, fun hp => ?_⟩
    obtain ⟨d, off, rfl, hg, hcc⟩ := k4 hp
    have ho := h6 _ _ _ rfl
    refine ⟨d, off, rfl, Nat.lt_of_lt_of_le hg hc.1, fun k hk => ?_⟩
    obtain ⟨c0, c1, c2⟩ := hcc k hk
    have hb := hc.2 d hg ho.1 ho.2
    exact ⟨(World.cell?_of_block (a := ⟨d, off + k * 3, none⟩) hb).trans c0, (World.cell?_of_block (a := ⟨d, off + (k * 3 + 1), none⟩) hb).trans c1, (World.cell?_of_block (a := ⟨d, off + (k * 3 + 2), none⟩) hb).trans c2⟩
theorem Vg.chg {w w' : World} {b g : Nat} {u v : Value} (h : Vg w b g u v) (hc : Chg w w' b g) : Vg w' b g u v := by
  obtain ⟨xs, ls, h⟩ := h
  exact ⟨xs, ls, h.chg hc⟩
theorem VgX.slices {w : World} {b g : Nat} {u v : Value} {xs : List Int} {ls : List En} (h : VgX w b g u v xs ls) : ∃ a n c a' n' c', u = .slice a n c ∧ v = .slice a' n' c' := by
  obtain ⟨_, _, ⟨ao, cap, rfl, _⟩, ⟨bo, cap', rfl, _⟩, _⟩ := h
  exact ⟨_, _, _, _, _, _, rfl, rfl⟩
theorem chg_gr {w w' : World} {b : Nat} (h : w.grownBy w' (some b)) (g : Nat) : Chg w w' b g := ⟨h.size, fun i hi hb _ => h.block i hi (fun e => hb (by simpa using e))⟩
theorem ownE_shape' {w : World} {B : Nat} {v : Value} {ls : List En} (h : OwnE w B v ls) : ∀ a n c, v = .slice (some a) n c → B ≤ a.block ∧ a.block < w.heap.size := by
  rintro a n c rfl
  rcases ownE_shape h with ⟨e, _⟩ | ⟨g, d, e, hg, hl⟩
  · cases e
  · cases e; exact ⟨hg, hl⟩
theorem own_shape' {e : TypeId} {w : World} {B : Nat} {v : Value} {cs : List Value} (h : Own e w B v cs) : ∀ a n c, v = .slice (some a) n c → B ≤ a.block ∧ a.block < w.heap.size := by
  rintro a n c rfl
  rcases h.shape with ⟨e, _⟩ | ⟨g, d, e, hg, hl, _⟩
  · cases e
  · cases e; exact ⟨hg, hl⟩
/-- What a call of the specification gave is a good value where its code is 0. -/
theorem VgX.of {w : World} {B E b g : Nat} {u v : Value} {xs : List Int} {ls : List En} (h : Sv w B E u v xs ls) (hx : xs.length = 16) (hl : ls.length ≤ 256) (hb : b < B) (hg : g < B) : VgX w b g u v xs ls := by
  have h3 := h.rd
  have h4 := h.rdE
  obtain ⟨T, o1, o2, _⟩ := h
  exact ⟨hx, hl, h3, h4, fun a n c e => by have := (own_shape' o1 a n c e).1; omega, fun a n c e => by have := (ownE_shape' o2 a n c e).1; omega, fun n c e => by subst e; rcases ownE_shape o2 with ⟨e, _⟩ | ⟨_, _, e, _⟩ <;> cases e; rfl⟩
/-- Three pairs of slices in a block that can be written. -/
structure Cls (w : World) (g : Nat) (u v : Nat → Value) : Prop where
  at' : ∀ k, k < 3 → w.cell? ⟨g, k * 2, none⟩ = some (u k) ∧ w.cell? ⟨g, k * 2 + 1, none⟩ = some (v k)
  free : ∀ j, w.frozen? ⟨g, j, none⟩ = false
  lt : g < w.heap.size
def updF (u : Nat → Value) (k : Nat) (x : Value) : Nat → Value := fun j => if j = k then x else u j
theorem Cls.block {w w' : World} {g : Nat} {u v : Nat → Value} (h : Cls w g u v) (hb : w'.heap[g]? = w.heap[g]?) (hs : w.heap.size ≤ w'.heap.size) : Cls w' g u v :=
  ⟨fun k hk => ⟨(World.cell?_of_block (a := ⟨g, k * 2, none⟩) hb).trans (h.at' k hk).1, (World.cell?_of_block (a := ⟨g, k * 2 + 1, none⟩) hb).trans (h.at' k hk).2⟩, fun j => (World.frozen?_of_block (a := ⟨g, j, none⟩) hb).trans (h.free j), Nat.lt_of_lt_of_le h.lt hs⟩
theorem Cls.gr {w w' : World} {g b : Nat} {u v : Nat → Value} (h : Cls w g u v) (hg : w.grownBy w' (some b)) (hn : g ≠ b) : Cls w' g u v := h.block (hg.block g h.lt (fun e => hn (by simpa using e))) hg.size
theorem Cls.put {w : World} {g : Nat} {u v : Nat → Value} (h : Cls w g u v) {k : Nat} (hk : k < 3) (x y : Value) : Cls ((w.setCell ⟨g, k * 2, none⟩ x).setCell ⟨g, k * 2 + 1, none⟩ y) g (updF u k x) (updF v k y) := by
  have o : ∀ (w : World) (i j : Nat) (z : Value), i ≠ j → (w.setCell ⟨g, j, none⟩ z).cell? ⟨g, i, none⟩ = w.cell? ⟨g, i, none⟩ := fun w i j z hij => World.cell?_setCells_out g [z] j w _ (fun _ => by simp; omega)
  refine ⟨fun j hj => ?_, fun j => ?_, by simpa using h.lt⟩
  · unfold updF
    by_cases e : j = k
    · subst e
      rw [if_pos rfl, if_pos rfl]
      refine ⟨?_, ?_⟩
      · rw [o _ _ _ _ (by omega)]
        exact World.cell?_setCell_same _ _ _ (h.at' j hj).1
      · exact World.cell?_setCell_same _ _ _ ((o _ _ _ _ (by omega)).trans (h.at' j hj).2)
    · rw [if_neg e, if_neg e]
      refine ⟨?_, ?_⟩
      · rw [o _ _ _ _ (by omega), o _ _ _ _ (by omega)]
        exact (h.at' j hj).1
      · rw [o _ _ _ _ (by omega), o _ _ _ _ (by omega)]
        exact (h.at' j hj).2
  · exact ((World.frozen?_setCells g [y] (k * 2 + 1) _ _).trans (World.frozen?_setCells g [x] (k * 2) _ _)).trans (h.free j)
/-- The row of three good values, beside a source. -/
structure Rst (C : Nat) (w : World) (b g A : Nat) (u v : Nat → Value) (wr : World) : Prop where
  cls : Cls wr g u v
  good : ∀ k, k < 3 → Vg wr b g (u k) (v k)
  src : Src C wr b A
  gr : w.grownBy wr (some b)
theorem Rst.mono {C : Nat} {w : World} {b g A A' : Nat} {u v : Nat → Value} {wr : World} (h : Rst C w b g A u v wr) (hA : A ≤ A') : Rst C w b g A' u v wr := ⟨h.cls, h.good, h.src.mono hA, h.gr⟩
theorem Rst.on {C : Nat} {w : World} {b g A A' : Nat} {u v : Nat → Value} {wr w' : World} (h : Rst C w b g A u v wr) (hn : g ≠ b) (hs : Src C w' b A') (hg : wr.grownBy w' (some b)) : Rst C w b g A' u v w' :=
  ⟨h.cls.gr hg hn, fun k hk => (h.good k hk).chg (chg_gr hg g), hs, grownBy_trans h.gr hg⟩
theorem dy_gr {w w' : World} {n b : Nat} {x y : Value} (h : Dy w n x y) (hg : w.grownBy w' (some b)) (hn : n ≠ b) : Dy w' n x y := h.grown hg (fun e => hn (by simpa using e.symm))
/-- The lists' length behind the specification's calls, where the code is 0. -/
theorem ad_good {xs : List Int} {ls : List En} {c : Int} {s : ByteArray} (h : adC xs ls c s = 0) (hx : xs.length = 16) : (adV xs ls c s).length = 16 ∧ (adE xs ls c s).length ≤ 256 := by
  unfold adV adE
  rw [if_pos h, if_pos h, List.length_set, insE_len]
  refine ⟨hx, ?_⟩
  unfold adC at h
  split at h
  · split at h
    · split at h
      · cases h
      · split at h
        · assumption
        · cases h
    · cases h
  · cases h
theorem wr_good {xs : List Int} {ls : List En} {c : Int} {s : ByteArray} (h : wrC xs ls c s = 0) (hx : xs.length = 16) : (wrV xs ls c s).length = 16 ∧ (wrE xs ls c s).length ≤ 256 := by
  unfold wrV wrE
  rw [if_pos h, if_pos h, List.length_set]
  exact ⟨hx, by simp⟩
theorem rem_good {xs : List Int} {ls : List En} {s : ByteArray} (h : remC xs ls s = 0) (hx : xs.length = 16) : (remV xs ls s).length = 16 ∧ (remE xs ls s).length ≤ 256 := by
  unfold remC at h
  split at h
  · rename_i hk
    split at h
    · rename_i hs
      unfold remV remE
      rw [if_pos hk, if_pos hs, if_pos hk, if_pos hs]
      have h1 := (vecOK_ofS hk).2
      have h2 := without_len ls s
      exact ⟨hx, by omega⟩
    · cases h
  · cases h
theorem jn_good {xs : List Int} {ls : List En} {ys : List Int} {ms : List En} (h : jnC xs ls ys ms = 0) (hx : xs.length = 16) (hy : ys.length = 16) : (jnV xs ls ys ms).length = 16 ∧ (jnE xs ls ys ms).length ≤ 256 := by
  unfold jnV jnE
  rw [if_pos h, if_pos h, List.length_zipWith]
  refine ⟨by omega, ?_⟩
  unfold jnC at h
  split at h
  · split at h
    · assumption
    · cases h
  · cases h
/-- Behind the switch of a round: the variable holds a pair, the code tells whether it is a good value. -/
structure Md (C : Nat) (w1 : World) (b g n A : Nat) (c : Int) (x y : Value) (wx : World) : Prop where
  dy : Dy wx n x y
  good : c = 0 → Vg wx b g x y
  src : Src C wx b A
  gr : w1.grownBy wx (some b)
theorem md_at {C : Nat} {w1 w6 : World} {b g n A A' B E : Nat} {c : Int} {x y x0 y0 : Value} {V : List Int} {Es : List En} (hd : Dy w6 n x0 y0) (hs : Src C w6 b A) (hg : w1.grownBy w6 (some b)) (S6 : Sv w6 B E x y V Es) (hA : A ≤ A') (hbn : b < n) (hn : w1.heap.size ≤ n) (hnB : n < B) (hgB : g < B) (hbB : b < B)
    (hgood : c = 0 → V.length = 16 ∧ Es.length ≤ 256) : Md C w1 b g n A' c x y ((w6.setCell ⟨n, 0, none⟩ x).setCell ⟨n, 1, none⟩ y) := by
  refine ⟨Dy.set1 (Dy.set0 hd _) _, fun h0 => ?_, ((hs.set hbn _).set hbn _).mono hA, gr_put (gr_put hg hn _ _) hn _ _⟩
  obtain ⟨v16, e256⟩ := hgood h0
  exact ⟨_, _, VgX.of (sv_put S6 n hnB _ _) v16 e256 hbB hgB⟩
theorem md_N {C : Nat} {w1 w6 : World} {b n m A B E : Nat} {x y x0 y0 p q : Value} {V : List Int} {Es : List En} (hN : Dy w6 m p q) (hd : Dy w6 n x0 y0) (hs : Src C w6 b A) (hg : w1.grownBy w6 (some b)) (S6 : Sv w6 B E x y V Es) (h1 : n < m) (h2 : m < B) (h3 : b < m) (h4 : w1.heap.size ≤ m) :
    Dy ((w6.setCell ⟨m, 0, none⟩ x).setCell ⟨m, 1, none⟩ y) m x y ∧ Dy ((w6.setCell ⟨m, 0, none⟩ x).setCell ⟨m, 1, none⟩ y) n x0 y0 ∧ Src C ((w6.setCell ⟨m, 0, none⟩ x).setCell ⟨m, 1, none⟩ y) b A ∧ w1.grownBy ((w6.setCell ⟨m, 0, none⟩ x).setCell ⟨m, 1, none⟩ y) (some b) ∧ Sv ((w6.setCell ⟨m, 0, none⟩ x).setCell ⟨m, 1, none⟩ y) B E x y V Es :=
  ⟨Dy.set1 (Dy.set0 hN _) _, Dy.aside (Dy.aside hd (by omega) 0 x) (by omega) 1 y, (hs.set h3 _).set h3 _, gr_put (gr_put hg h4 _ _) h4 _ _, sv_put S6 m h2 x y⟩
theorem md_sv {C : Nat} {w1 wx w6 : World} {b g n A A' : Nat} {c : Int} {x y x0 y0 : Value} {V : List Int} {E : List En} (hd : Dy wx n x0 y0) (hs : Src C wx b A) (hg : w1.grownBy wx (some b)) (hbel : Below wx.heap.size wx w6) (S6 : Sv w6 wx.heap.size w6.heap.size x y V E) (hA : A ≤ A') (hbn : b < n) (hn : w1.heap.size ≤ n) (hgl : g < wx.heap.size)
    (hgood : c = 0 → V.length = 16 ∧ E.length ≤ 256) : Md C w1 b g n A' c x y ((w6.setCell ⟨n, 0, none⟩ x).setCell ⟨n, 1, none⟩ y) := by
  have hlt := hd.lt
  have hsl := hs.lt
  refine ⟨Dy.set1 (Dy.set0 (hd.on hbel) _) _, fun h0 => ?_, ((((hs.below hbel hsl).set hbn _).set hbn _)).mono hA, gr_put (gr_put (grownBy_trans hg (grownBy_below hbel (Nat.le_refl _) _)) hn _ _) hn _ _⟩
  obtain ⟨v16, e256⟩ := hgood h0
  exact ⟨_, _, VgX.of (sv_put S6 n hlt _ _) v16 e256 hsl hgl⟩

set_option maxHeartbeats 16000000 in
set_option maxRecDepth 100000 in
theorem l03Replicas_any (C b A : Nat) (w : World) (set : Bool) (h : Src C w b A) (hA : A ≤ 500000000) :
    Calls Tryz.prog 44 #[.pointer (some ⟨b, 0, none⟩), .bool set] w fun e w' => ∃ g, e = .returned (.slice (some ⟨g, 0, none⟩) 3 3) ∧ w.heap.size ≤ g ∧ ∃ u v, Rst C w b g (A + 300) u v w' := by
  have hlt := h.lt
  go_enter Tryz.func44, Tryz.ntmps44
  go_wp2_with fail
  refine (l02New_any _).mono ?_
  rintro e w1 ⟨g1, rfl, o1, hb1⟩
  go_wp2_with fail
  refine (l02New_any _).mono ?_
  rintro e w2 ⟨g2, rfl, o2, hb2⟩
  go_wp2_with fail
  refine (l02New_any _).mono ?_
  rintro e w3 ⟨g3, rfl, o3, hb3⟩
  have hb03 := below_seq (below_seq hb1 hb2) hb3
  have z1 := hb1.size
  have z2 := hb2.size
  have z3 := hb3.size
  have l1 := own_shape' o1 _ _ _ rfl
  have l2 := own_shape' o2 _ _ _ rfl
  have l3 := own_shape' o3 _ _ _ rfl
  dsimp only at l1 l2 l3
  have HR0 : Hid (Rst C w b w3.heap.size A (fun k => if k = 0 then .slice (some ⟨g1, 0, none⟩) 16 16 else if k = 1 then .slice (some ⟨g2, 0, none⟩) 16 16 else .slice (some ⟨g3, 0, none⟩) 16 16) (fun _ => .slice none 0 0) (w3.alloc (.cells #[.slice (some ⟨g1, 0, none⟩) 16 16, .slice none 0 0, .slice (some ⟨g2, 0, none⟩) 16 16, .slice none 0 0, .slice (some ⟨g3, 0, none⟩) 16 16, .slice none 0 0] 28))) := by
    have hnew : (w3.alloc (.cells #[.slice (some ⟨g1, 0, none⟩) 16 16, .slice none 0 0, .slice (some ⟨g2, 0, none⟩) 16 16, .slice none 0 0, .slice (some ⟨g3, 0, none⟩) 16 16, .slice none 0 0] 28)).heap[w3.heap.size]? = some (.cells #[.slice (some ⟨g1, 0, none⟩) 16 16, .slice none 0 0, .slice (some ⟨g2, 0, none⟩) 16 16, .slice none 0 0, .slice (some ⟨g3, 0, none⟩) 16 16, .slice none 0 0] 28 (0, 0)) := heap_alloc_new w3 _
    have hal := below_alloc w3 (.cells #[.slice (some ⟨g1, 0, none⟩) 16 16, .slice none 0 0, .slice (some ⟨g2, 0, none⟩) 16 16, .slice none 0 0, .slice (some ⟨g3, 0, none⟩) 16 16, .slice none 0 0] 28)
    have hgood : ∀ (wz : World) (gz : Nat), Own 3 wz w.heap.size (.slice (some ⟨gz, 0, none⟩) 16 16) ((List.replicate 16 0).map (Value.int .i64)) → gz ≠ b → gz < w3.heap.size → Below wz.heap.size wz w3 → Vg (w3.alloc (.cells #[.slice (some ⟨g1, 0, none⟩) 16 16, .slice none 0 0, .slice (some ⟨g2, 0, none⟩) 16 16, .slice none 0 0, .slice (some ⟨g3, 0, none⟩) 16 16, .slice none 0 0] 28)) b w3.heap.size (.slice (some ⟨gz, 0, none⟩) 16 16) (.slice none 0 0) := fun wz gz ho h1 h2 hb => by
      have hr := (ho.below (below_seq hb hal) (Nat.le_refl _)).rd
      refine ⟨List.replicate 16 0, [], by simp, by simp, hr, ⟨none, 0, rfl, fun hp => absurd hp (by simp)⟩, fun a n c e => by cases e; exact ⟨h1, by show gz ≠ _; omega⟩, (fun a n c e => by cases e), (fun n c e => by cases e; rfl)⟩
    refine ⟨⟨fun k hk => ?_, fun j => free_blk hnew j, by simp⟩, fun k hk => ?_, (h.below hb03 hlt).alloc _, gr_alloc (grownBy_below hb03 (Nat.le_refl _) _) _⟩
    · match k, hk with
      | 0, _ => exact ⟨cell_blk hnew 0 rfl, cell_blk hnew 1 rfl⟩
      | 1, _ => exact ⟨cell_blk hnew 2 rfl, cell_blk hnew 3 rfl⟩
      | 2, _ => exact ⟨cell_blk hnew 4 rfl, cell_blk hnew 5 rfl⟩
    · match k, hk with
      | 0, _ => exact hgood w1 g1 o1 (by omega) (by omega) (below_seq hb2 hb3)
      | 1, _ => exact hgood w2 g2 (o2.mono z1) (by omega) (by omega) hb3
      | 2, _ => exact hgood w3 g3 (o3.mono (by omega)) (by omega) (by omega) (Below.refl _ _)
  have hgw : w.heap.size ≤ w3.heap.size := by omega
  have hgb : Hid (w3.heap.size ≠ b) := by unfold Hid; omega
  clear o1 o2 o3 hb1 hb2 hb3 hb03 l1 l2 l3 z1 z2 z3
  go_wp2_with fail
  refine (size_any C b A 20 _ HR0.out.src (by omega)).mono ?_
  rintro e w4 ⟨r, rfl, r0, r1, rfl⟩
  have r2 : r + 1 < 9223372036854775808 := by omega
  go_wp2_with fail
  refine (srcNext_any C b A (r + 1) _ HR0.out.src (by omega) (by omega) (by omega)).mono ?_
  rintro e w5 ⟨i0, rfl, i1, i2, hS5, hG5⟩
  obtain ⟨i, rfl⟩ : ∃ i : Nat, i0 = (i : Int) := ⟨i0.toNat, by omega⟩
  have HR5 : Hid _ := HR0.out.on hgb.out hS5 hG5
  generalize w3.heap.size = g at HR5 hgw hgb ⊢
  clear HR0 hS5 hG5
  go_wp2_with fail
  go_loopw [6] (fun t6 wr => ∃ (i : Nat) (u v : Nat → Value), i ≤ 20 ∧ t6 = .int .i64 (i : Int) ∧ Hid (Rst C w b g (A + 3 + 9 * (20 - i)) u v wr)) (fun t6 _ => (intOf t6).toNat)
  case atStart => exact ⟨i, _, _, by omega, rfl, HR5.out.mono (by omega)⟩
  case round =>
    clear HR5 i1 i2
    obtain ⟨i, u, v, hi, rfl, HR⟩ := hrel
    by_cases hi0 : 0 < i
    · have j0 : (0 : Int) < (i : Int) := by omega
      have j1 : -9223372036854775808 ≤ (i : Int) - 1 := by omega
      have j2 : (i : Int) - 1 < 9223372036854775808 := by omega
      go_wp2_with fail
      refine (srcNext_any C b _ 3 _ HR.out.src (by omega) (by omega) (by omega)).mono ?_
      rintro e w1 ⟨r, rfl, r0, r1, hS1, hG1⟩
      obtain ⟨k, rfl⟩ : ∃ k : Nat, r = (k : Int) := ⟨r.toNat, by omega⟩
      have hk : k < 3 := by omega
      have HR1 : Hid (Rst C w b g _ u v w1) := HR.out.on hgb.out hS1 hG1
      clear HR hS1 hG1
      obtain ⟨xs, ls, hvg⟩ := HR1.out.good k hk
      obtain ⟨ua, un, uc, va, vn, vc, hu, hv⟩ := hvg.slices
      obtain ⟨c0, c1⟩ := HR1.out.cls.at' k hk
      have HVG : Hid (VgX w1 b g (u k) (v k) xs ls) := hvg
      rw [hu] at c0 HVG
      rw [hv] at c1 HVG
      have HC : Hid (∀ wx, w1.grownBy wx (some b) → wx.cell? ⟨g, k * 2, none⟩ = some (.slice ua un uc) ∧ wx.cell? ⟨g, k * 2 + 1, none⟩ = some (.slice va vn vc)) := fun wx hx => by
        have := (HR1.out.cls.gr hx hgb.out).at' k hk
        rw [hu, hv] at this
        exact this
      have hlt1 := HR1.out.src.lt
      have hgl1 := HR1.out.cls.lt
      clear hvg
      have hD0 : Hid (Dy _ w1.heap.size _ _) := Dy.made w1 (.slice ua un uc) (.slice va vn vc) 28
      have hX0 : w1.grownBy (w1.alloc (.cells #[.slice ua un uc, .slice va vn vc] 28)) (some b) := World.grownBy_alloc w1 _ (some b)
      go_wp2_with fail
      refine (srcNext_any C b _ 4 _ (HR1.out.src.alloc _) (by omega) (by omega) (by omega)).mono ?_
      rintro e w2 ⟨q, rfl, q0, q1, hS2, hG2⟩
      have hX2 := grownBy_trans hX0 hG2
      have HD2 : Hid (Dy w2 w1.heap.size _ _) := dy_gr hD0.out hG2 (by omega)
      clear hX0 hG2 hD0 c0 c1
      go_upto_block 2 with fail
      go_cut [9] from 36 to 100 (fun t9 wx => ∃ (c : Int) (x y : Value), t9 = .int .i64 c ∧ (∃ a n c', x = .slice a n c') ∧ (∃ a n c', y = .slice a n c') ∧ Hid (Md C w1 b g w1.heap.size (A + 3 + 9 * (20 - i) + 3 + 6) c x y wx))
      case first =>
        have hzz := hX2.size
        have hq : q = 0 ∨ q = 1 ∨ q = 2 ∨ q = 3 := by omega
        clear q0 q1
        cases set with
        | true =>
          rcases hq with rfl | rfl | rfl | rfl
          · have hs0 : True := trivial
            go_wp2_with fail
            replace hS2 : Src C w2.drew b _ := hS2
            replace hX2 := gr_drew hX2
            replace HD2 : Hid (Dy w2.drew _ _ _) := HD2
            go_region_held2 (fun w' => w'.cell? ⟨g, k * 2, none⟩ = some (.slice ua un uc) ∧ w'.cell? ⟨g, k * 2 + 1, none⟩ = some (.slice va vn vc)) (first | exact HC.out _ hX2 | exact HC.out _ hX2.drew0 | exact HC.out _ (gr_put (gr_put hX2 (Nat.le_refl _) _ _) (Nat.le_refl _) _ _)) (first | (go_at_call 31; refine (word_any C b _ _ hS2 (by omega)).mono ?_; rintro e w5 ⟨s, rfl, hs5, hS5, hG5⟩; have hX5 := grownBy_trans hX2 hG5; have HD5 : Hid (Dy w5 w1.heap.size _ _) := dy_gr HD2.out hG5 (by omega); clear hS2 hX2 HD2 hG5; have hX2 := hX5; clear hX5) | (go_at_call 6; (refine (specSetAdd_any _ _ _ _ xs ls (k : Int) s (by omega) (Nat.le_refl _) (HVG.out.chg (chg_gr hX2 g)).2.2.1 (HVG.out.chg (chg_gr hX2 g)).2.2.2.1).mono ?_; rintro e w6 ⟨x6, y6, rfl, S6, hb6⟩; obtain ⟨a6, n6, k6, b6, m6, d6, rfl, rfl⟩ := S6.shape; have hM6 : Hid (Md C w1 b g w1.heap.size _ _ _ _ _) := md_sv HD5.out hS5 hX2 hb6 S6 (A' := A + 3 + 9 * (20 - i) + 3 + 6) (by omega) hlt1 (Nat.le_refl _) (by have := hX2.size; omega) (fun h0 => ad_good h0 HVG.out.1); have hX6 := grownBy_trans hX2 (grownBy_below hb6 (Nat.le_refl _) _); have HD6 : Hid (Dy w6 w1.heap.size _ _) := HD5.out.on hb6; obtain ⟨⟨p0, p1⟩, pf⟩ := HD6.out; have f0 := pf 0; have f1 := pf 1; clear hX2; have hX2 := hX6; clear hX6)))
            go_wp2_with fail
            go_meet
            case rel => exact ⟨_, _, _, rfl, ⟨_, _, _, rfl⟩, ⟨_, _, _, rfl⟩, hM6⟩
          · have hs0 : True := trivial
            go_wp2_with fail
            replace hS2 : Src C w2.drew b _ := hS2
            replace hX2 := gr_drew hX2
            replace HD2 : Hid (Dy w2.drew _ _ _) := HD2
            go_region_held2 (fun w' => w'.cell? ⟨g, k * 2, none⟩ = some (.slice ua un uc) ∧ w'.cell? ⟨g, k * 2 + 1, none⟩ = some (.slice va vn vc)) (first | exact HC.out _ hX2 | exact HC.out _ hX2.drew0 | exact HC.out _ (gr_put (gr_put hX2 (Nat.le_refl _) _ _) (Nat.le_refl _) _ _)) (first | (go_at_call 31; refine (word_any C b _ _ hS2 (by omega)).mono ?_; rintro e w5 ⟨s, rfl, hs5, hS5, hG5⟩; have hX5 := grownBy_trans hX2 hG5; have HD5 : Hid (Dy w5 w1.heap.size _ _) := dy_gr HD2.out hG5 (by omega); clear hS2 hX2 HD2 hG5; have hX2 := hX5; clear hX5) | (go_at_call 6; (refine (specSetAdd_any _ _ _ _ xs ls (k : Int) s (by omega) (Nat.le_refl _) (HVG.out.chg (chg_gr hX2 g)).2.2.1 (HVG.out.chg (chg_gr hX2 g)).2.2.2.1).mono ?_; rintro e w6 ⟨x6, y6, rfl, S6, hb6⟩; obtain ⟨a6, n6, k6, b6, m6, d6, rfl, rfl⟩ := S6.shape; have hM6 : Hid (Md C w1 b g w1.heap.size _ _ _ _ _) := md_sv HD5.out hS5 hX2 hb6 S6 (A' := A + 3 + 9 * (20 - i) + 3 + 6) (by omega) hlt1 (Nat.le_refl _) (by have := hX2.size; omega) (fun h0 => ad_good h0 HVG.out.1); have hX6 := grownBy_trans hX2 (grownBy_below hb6 (Nat.le_refl _) _); have HD6 : Hid (Dy w6 w1.heap.size _ _) := HD5.out.on hb6; obtain ⟨⟨p0, p1⟩, pf⟩ := HD6.out; have f0 := pf 0; have f1 := pf 1; clear hX2; have hX2 := hX6; clear hX6)))
            go_wp2_with fail
            go_meet
            case rel => exact ⟨_, _, _, rfl, ⟨_, _, _, rfl⟩, ⟨_, _, _, rfl⟩, hM6⟩
          · have hs0 : True := trivial
            go_wp2_with fail
            replace hS2 : Src C w2.drew b _ := hS2
            replace hX2 := gr_drew hX2
            replace HD2 : Hid (Dy w2.drew _ _ _) := HD2
            go_region_held2 (fun w' => w'.cell? ⟨g, k * 2, none⟩ = some (.slice ua un uc) ∧ w'.cell? ⟨g, k * 2 + 1, none⟩ = some (.slice va vn vc)) (first | exact HC.out _ hX2 | exact HC.out _ hX2.drew0 | exact HC.out _ (gr_put (gr_put hX2 (Nat.le_refl _) _ _) (Nat.le_refl _) _ _)) (first | (go_at_call 31; refine (word_any C b _ _ hS2 (by omega)).mono ?_; rintro e w5 ⟨s, rfl, hs5, hS5, hG5⟩; have hX5 := grownBy_trans hX2 hG5; have HD5 : Hid (Dy w5 w1.heap.size _ _) := dy_gr HD2.out hG5 (by omega); clear hS2 hX2 HD2 hG5; have hX2 := hX5; clear hX5) | (go_at_call 70; (refine (specSetRemove_sv _ _ _ _ xs ls s (by omega) (Nat.le_refl _) (HVG.out.chg (chg_gr hX2 g)).2.2.1 (HVG.out.chg (chg_gr hX2 g)).2.2.2.1).mono ?_; rintro e w6 ⟨x6, y6, rfl, S6, hb6⟩; obtain ⟨a6, n6, k6, b6, m6, d6, rfl, rfl⟩ := S6.shape; have hM6 : Hid (Md C w1 b g w1.heap.size _ _ _ _ _) := md_sv HD5.out hS5 hX2 hb6 S6 (A' := A + 3 + 9 * (20 - i) + 3 + 6) (by omega) hlt1 (Nat.le_refl _) (by have := hX2.size; omega) (fun h0 => rem_good h0 HVG.out.1); have hX6 := grownBy_trans hX2 (grownBy_below hb6 (Nat.le_refl _) _); have HD6 : Hid (Dy w6 w1.heap.size _ _) := HD5.out.on hb6; obtain ⟨⟨p0, p1⟩, pf⟩ := HD6.out; have f0 := pf 0; have f1 := pf 1; clear hX2; have hX2 := hX6; clear hX6)))
            go_wp2_with fail
            go_meet
            case rel => exact ⟨_, _, _, rfl, ⟨_, _, _, rfl⟩, ⟨_, _, _, rfl⟩, hM6⟩
          · go_wp2_with fail
            replace hS2 : Src C w2.drew b _ := hS2
            replace hX2 := gr_drew hX2
            replace HD2 : Hid (Dy w2.drew _ _ _) := HD2
            obtain ⟨y0, y1⟩ := HC.out _ hX2
            go_region_with (first | (go_at_call 30; (refine (srcNext_any C b _ 3 _ hS2 (by omega) (by omega) (by omega)).mono ?_; rintro e w5 ⟨r5, rfl, r50, r51, hS5, hG5⟩; obtain ⟨k5, rfl⟩ : ∃ k : Nat, r5 = (k : Int) := ⟨r5.toNat, by omega⟩; have hX5 := grownBy_trans hX2 hG5; have HD5 : Hid (Dy w5 w1.heap.size _ _) := dy_gr HD2.out hG5 (by omega); clear hS2 hX2 HD2 hG5; have hX2 := hX5; clear hX5 y0 y1; obtain ⟨y0, y1⟩ := HC.out _ hX2; obtain ⟨xs5, ls5, hv5⟩ := HR1.out.good k5 (by omega); obtain ⟨ia, ib, ic, ja, jb, jc, hu5, hv5'⟩ := hv5.slices; rw [hu5, hv5'] at hv5; have HVG5 : Hid (VgX w1 b g _ _ xs5 ls5) := hv5; clear hv5; obtain ⟨t0, t1⟩ := (HR1.out.cls.gr hX2 hgb.out).at' k5 (by omega); rw [hu5] at t0; rw [hv5'] at t1; clear hu5 hv5')) | (go_at_call 71; (refine (specSetJoin_of l03Join_any _ _ _ _ _ _ xs xs5 ls ls5 (Nat.le_refl _) (HVG.out.chg (chg_gr hX2 g)).2.2.1 (HVG.out.chg (chg_gr hX2 g)).2.2.2.1 (HVG5.out.chg (chg_gr hX2 g)).2.2.1 (HVG5.out.chg (chg_gr hX2 g)).2.2.2.1).mono ?_; rintro e w6 ⟨x6, y6, rfl, S6, hb6⟩; obtain ⟨a6, n6, k6, b6, m6, d6, rfl, rfl⟩ := S6.shape; have hM6 : Hid (Md C w1 b g w1.heap.size _ _ _ _ _) := md_sv HD5.out hS5 hX2 hb6 S6 (A' := A + 3 + 9 * (20 - i) + 3 + 6) (by omega) hlt1 (Nat.le_refl _) (by have := hX2.size; omega) (fun h0 => jn_good h0 HVG.out.1 HVG5.out.1); have hX6 := grownBy_trans hX2 (grownBy_below hb6 (Nat.le_refl _) _); have HD6 : Hid (Dy w6 w1.heap.size _ _) := HD5.out.on hb6; obtain ⟨⟨p0, p1⟩, pf⟩ := HD6.out; have f0 := pf 0; have f1 := pf 1; clear hX2; have hX2 := hX6; clear hX6)))
            all_goals
              go_wp2_with fail
              go_meet
            all_goals
              (case rel => exact ⟨_, _, _, rfl, ⟨_, _, _, rfl⟩, ⟨_, _, _, rfl⟩, hM6⟩)
        | false =>
          rcases hq with rfl | rfl | rfl | rfl
          · go_wp2_with fail
            have hS2o := hS2
            have hX2o := hX2
            have HD2o := HD2
            have hlt2 := HD2.out.lt
            replace hS2 : Src C w2.drew b _ := hS2
            replace hX2 := gr_drew hX2
            replace HD2 : Hid (Dy w2.drew _ _ _) := HD2
            go_region_held3 (fun w' => w'.cell? ⟨g, k * 2, none⟩ = some (.slice ua un uc) ∧ w'.cell? ⟨g, k * 2 + 1, none⟩ = some (.slice va vn vc)) (first | exact HC.out _ hX2 | exact HC.out _ (gr_alloc hX2o (.cells #[.slice none 0 0, .slice none 0 0] 74)) | exact HC.out _ (gr_alloc hX2 _) | exact HC.out _ (gr_put (gr_put hX2 (by omega) _ _) (by omega) _ _)) (first | (go_at_call 31; (first | (refine (word_any C b _ _ hS2 (by omega)).mono ?_; rintro e w5 ⟨s, rfl, hs5, hS5, hG5⟩; have hX5 := grownBy_trans hX2 hG5; have HD5 : Hid (Dy w5 w1.heap.size _ _) := dy_gr HD2.out hG5 (by omega); have hz5 := hG5.size; (try simp only [World.size_drew] at hz5); (try simp only [World.size_alloc] at hz5); clear hS2 hG5) | (refine (word_any C b _ _ (hS2o.allocD (.cells #[.slice none 0 0, .slice none 0 0] 74)) (by omega)).mono ?_; rintro e w5 ⟨s, rfl, hs5, hS5, hG5⟩; have hX5 := grownBy_trans (gr_drew (gr_alloc hX2o (.cells #[.slice none 0 0, .slice none 0 0] 74))) hG5; have HD5 : Hid (Dy w5 w1.heap.size _ _) := dy_gr (show Dy (w2.alloc (.cells #[.slice none 0 0, .slice none 0 0] 74)).drew w1.heap.size _ _ from Dy.on HD2o.out (below_alloc _ (.cells #[.slice none 0 0, .slice none 0 0] 74)).drew) hG5 (by omega); have HN : Hid (Dy w5 w2.heap.size _ _) := dy_gr (Dy.made w2 (.slice none 0 0) (.slice none 0 0) 74) (gr_undrew hG5) (by omega); have hz5 := hG5.size; (try simp only [World.size_drew] at hz5); (try simp only [World.size_alloc] at hz5); clear hS2 hG5)); clear hX2 HD2; have hX2 := hX5; clear hX5) | (go_at_call 69; (first | (refine (specMultiWrite_any _ _ _ _ xs ls (k : Int) s (by omega) (Nat.le_refl _) (HVG.out.chg (chg_gr hX2 g)).2.2.1 (HVG.out.chg (chg_gr hX2 g)).2.2.2.1).mono ?_; rintro e w6 ⟨x6, y6, rfl, S6, hb6⟩; obtain ⟨a6, n6, k6, b6, m6, d6, rfl, rfl⟩ := S6.shape; have hz6 := hb6.size; (try simp only [World.size_alloc] at hz6 S6); have hX6 := grownBy_trans hX2 (grownBy_below hb6 (Nat.le_refl _) _); have HD6 : Hid (Dy w6 w1.heap.size _ _) := HD5.out.on hb6; have hS6 := hS5.below hb6 hS5.lt; (try replace HN : Hid (Dy w6 _ _ _) := Dy.on HN.out hb6)) | (refine (specMultiWrite_any _ _ _ _ xs ls (k : Int) s (by omega) (Nat.le_refl _) (HVG.out.chg (chg_gr (gr_alloc hX2 (.cells #[.slice none 0 0, .slice none 0 0] 74)) g)).2.2.1 (HVG.out.chg (chg_gr (gr_alloc hX2 (.cells #[.slice none 0 0, .slice none 0 0] 74)) g)).2.2.2.1).mono ?_; rintro e w6 ⟨x6, y6, rfl, S6, hb6⟩; obtain ⟨a6, n6, k6, b6, m6, d6, rfl, rfl⟩ := S6.shape; have hz6 := hb6.size; (try simp only [World.size_alloc] at hz6 S6); have hX6 := grownBy_trans (gr_alloc hX2 (.cells #[.slice none 0 0, .slice none 0 0] 74)) (grownBy_below hb6 (Nat.le_refl _) _); have HD6 : Hid (Dy w6 w1.heap.size _ _) := (HD5.out.on (below_alloc _ (.cells #[.slice none 0 0, .slice none 0 0] 74))).on hb6; have hS6 := (hS5.alloc (.cells #[.slice none 0 0, .slice none 0 0] 74)).below hb6 (hS5.alloc (.cells #[.slice none 0 0, .slice none 0 0] 74)).lt; have HN : Hid (Dy w6 w5.heap.size _ _) := (Dy.made w5 (.slice none 0 0) (.slice none 0 0) 74).on hb6)); clear hX2; have hX2 := hX6; clear hX6; (try (obtain ⟨⟨b0, b1⟩, hf⟩ := HN.out; have f0 := hf 0; have f1 := hf 1))))
            all_goals
              first
              | (obtain ⟨hMv, HDv, hSv, hXv, SVv⟩ := md_N HN.out HD6.out hS6 hX2 S6 (by omega) (by omega) (by omega) (by omega); obtain ⟨⟨e0, e1⟩, _⟩ := hMv; have HDw : Hid (Dy _ w1.heap.size _ _) := HDv; obtain ⟨⟨p0, p1⟩, pf⟩ := HDv; have g0 := pf 0; have g1 := pf 1; go_wp2_with fail; go_meet; (case rel => exact ⟨_, _, _, rfl, ⟨_, _, _, rfl⟩, ⟨_, _, _, rfl⟩, md_at HDw.out hSv hXv SVv (by omega) hlt1 (Nat.le_refl _) (by omega) (by omega) (by omega) (fun h0 => wr_good h0 HVG.out.1)⟩))
              | (have hMv : Dy (w6.alloc (.cells #[.slice a6 n6 k6, .slice b6 m6 d6] 74)) w6.heap.size _ _ := Dy.made w6 (.slice a6 n6 k6) (.slice b6 m6 d6) 74; have HDv : Dy (w6.alloc (.cells #[.slice a6 n6 k6, .slice b6 m6 d6] 74)) w1.heap.size _ _ := HD6.out.on (below_alloc _ _); have hSv := hS6.alloc (.cells #[.slice a6 n6 k6, .slice b6 m6 d6] 74); have hXv := gr_alloc hX2 (.cells #[.slice a6 n6 k6, .slice b6 m6 d6] 74); have SVv := S6.alloc (.cells #[.slice a6 n6 k6, .slice b6 m6 d6] 74); obtain ⟨⟨e0, e1⟩, _⟩ := hMv; have HDw : Hid (Dy _ w1.heap.size _ _) := HDv; obtain ⟨⟨p0, p1⟩, pf⟩ := HDv; have g0 := pf 0; have g1 := pf 1; go_wp2_with fail; go_meet; (case rel => exact ⟨_, _, _, rfl, ⟨_, _, _, rfl⟩, ⟨_, _, _, rfl⟩, md_at HDw.out hSv hXv SVv (by omega) hlt1 (Nat.le_refl _) (by omega) (by omega) (by omega) (fun h0 => wr_good h0 HVG.out.1)⟩))
          · go_wp2_with fail
            have hS2o := hS2
            have hX2o := hX2
            have HD2o := HD2
            have hlt2 := HD2.out.lt
            replace hS2 : Src C w2.drew b _ := hS2
            replace hX2 := gr_drew hX2
            replace HD2 : Hid (Dy w2.drew _ _ _) := HD2
            go_region_held3 (fun w' => w'.cell? ⟨g, k * 2, none⟩ = some (.slice ua un uc) ∧ w'.cell? ⟨g, k * 2 + 1, none⟩ = some (.slice va vn vc)) (first | exact HC.out _ hX2 | exact HC.out _ (gr_alloc hX2o (.cells #[.slice none 0 0, .slice none 0 0] 74)) | exact HC.out _ (gr_alloc hX2 _) | exact HC.out _ (gr_put (gr_put hX2 (by omega) _ _) (by omega) _ _)) (first | (go_at_call 31; (first | (refine (word_any C b _ _ hS2 (by omega)).mono ?_; rintro e w5 ⟨s, rfl, hs5, hS5, hG5⟩; have hX5 := grownBy_trans hX2 hG5; have HD5 : Hid (Dy w5 w1.heap.size _ _) := dy_gr HD2.out hG5 (by omega); have hz5 := hG5.size; (try simp only [World.size_drew] at hz5); (try simp only [World.size_alloc] at hz5); clear hS2 hG5) | (refine (word_any C b _ _ (hS2o.allocD (.cells #[.slice none 0 0, .slice none 0 0] 74)) (by omega)).mono ?_; rintro e w5 ⟨s, rfl, hs5, hS5, hG5⟩; have hX5 := grownBy_trans (gr_drew (gr_alloc hX2o (.cells #[.slice none 0 0, .slice none 0 0] 74))) hG5; have HD5 : Hid (Dy w5 w1.heap.size _ _) := dy_gr (show Dy (w2.alloc (.cells #[.slice none 0 0, .slice none 0 0] 74)).drew w1.heap.size _ _ from Dy.on HD2o.out (below_alloc _ (.cells #[.slice none 0 0, .slice none 0 0] 74)).drew) hG5 (by omega); have HN : Hid (Dy w5 w2.heap.size _ _) := dy_gr (Dy.made w2 (.slice none 0 0) (.slice none 0 0) 74) (gr_undrew hG5) (by omega); have hz5 := hG5.size; (try simp only [World.size_drew] at hz5); (try simp only [World.size_alloc] at hz5); clear hS2 hG5)); clear hX2 HD2; have hX2 := hX5; clear hX5) | (go_at_call 69; (first | (refine (specMultiWrite_any _ _ _ _ xs ls (k : Int) s (by omega) (Nat.le_refl _) (HVG.out.chg (chg_gr hX2 g)).2.2.1 (HVG.out.chg (chg_gr hX2 g)).2.2.2.1).mono ?_; rintro e w6 ⟨x6, y6, rfl, S6, hb6⟩; obtain ⟨a6, n6, k6, b6, m6, d6, rfl, rfl⟩ := S6.shape; have hz6 := hb6.size; (try simp only [World.size_alloc] at hz6 S6); have hX6 := grownBy_trans hX2 (grownBy_below hb6 (Nat.le_refl _) _); have HD6 : Hid (Dy w6 w1.heap.size _ _) := HD5.out.on hb6; have hS6 := hS5.below hb6 hS5.lt; (try replace HN : Hid (Dy w6 _ _ _) := Dy.on HN.out hb6)) | (refine (specMultiWrite_any _ _ _ _ xs ls (k : Int) s (by omega) (Nat.le_refl _) (HVG.out.chg (chg_gr (gr_alloc hX2 (.cells #[.slice none 0 0, .slice none 0 0] 74)) g)).2.2.1 (HVG.out.chg (chg_gr (gr_alloc hX2 (.cells #[.slice none 0 0, .slice none 0 0] 74)) g)).2.2.2.1).mono ?_; rintro e w6 ⟨x6, y6, rfl, S6, hb6⟩; obtain ⟨a6, n6, k6, b6, m6, d6, rfl, rfl⟩ := S6.shape; have hz6 := hb6.size; (try simp only [World.size_alloc] at hz6 S6); have hX6 := grownBy_trans (gr_alloc hX2 (.cells #[.slice none 0 0, .slice none 0 0] 74)) (grownBy_below hb6 (Nat.le_refl _) _); have HD6 : Hid (Dy w6 w1.heap.size _ _) := (HD5.out.on (below_alloc _ (.cells #[.slice none 0 0, .slice none 0 0] 74))).on hb6; have hS6 := (hS5.alloc (.cells #[.slice none 0 0, .slice none 0 0] 74)).below hb6 (hS5.alloc (.cells #[.slice none 0 0, .slice none 0 0] 74)).lt; have HN : Hid (Dy w6 w5.heap.size _ _) := (Dy.made w5 (.slice none 0 0) (.slice none 0 0) 74).on hb6)); clear hX2; have hX2 := hX6; clear hX6; (try (obtain ⟨⟨b0, b1⟩, hf⟩ := HN.out; have f0 := hf 0; have f1 := hf 1))))
            all_goals
              first
              | (obtain ⟨hMv, HDv, hSv, hXv, SVv⟩ := md_N HN.out HD6.out hS6 hX2 S6 (by omega) (by omega) (by omega) (by omega); obtain ⟨⟨e0, e1⟩, _⟩ := hMv; have HDw : Hid (Dy _ w1.heap.size _ _) := HDv; obtain ⟨⟨p0, p1⟩, pf⟩ := HDv; have g0 := pf 0; have g1 := pf 1; go_wp2_with fail; go_meet; (case rel => exact ⟨_, _, _, rfl, ⟨_, _, _, rfl⟩, ⟨_, _, _, rfl⟩, md_at HDw.out hSv hXv SVv (by omega) hlt1 (Nat.le_refl _) (by omega) (by omega) (by omega) (fun h0 => wr_good h0 HVG.out.1)⟩))
              | (have hMv : Dy (w6.alloc (.cells #[.slice a6 n6 k6, .slice b6 m6 d6] 74)) w6.heap.size _ _ := Dy.made w6 (.slice a6 n6 k6) (.slice b6 m6 d6) 74; have HDv : Dy (w6.alloc (.cells #[.slice a6 n6 k6, .slice b6 m6 d6] 74)) w1.heap.size _ _ := HD6.out.on (below_alloc _ _); have hSv := hS6.alloc (.cells #[.slice a6 n6 k6, .slice b6 m6 d6] 74); have hXv := gr_alloc hX2 (.cells #[.slice a6 n6 k6, .slice b6 m6 d6] 74); have SVv := S6.alloc (.cells #[.slice a6 n6 k6, .slice b6 m6 d6] 74); obtain ⟨⟨e0, e1⟩, _⟩ := hMv; have HDw : Hid (Dy _ w1.heap.size _ _) := HDv; obtain ⟨⟨p0, p1⟩, pf⟩ := HDv; have g0 := pf 0; have g1 := pf 1; go_wp2_with fail; go_meet; (case rel => exact ⟨_, _, _, rfl, ⟨_, _, _, rfl⟩, ⟨_, _, _, rfl⟩, md_at HDw.out hSv hXv SVv (by omega) hlt1 (Nat.le_refl _) (by omega) (by omega) (by omega) (fun h0 => wr_good h0 HVG.out.1)⟩))
          · go_wp2_with fail
            go_meet
            case rel => exact ⟨0, _, _, rfl, ⟨_, _, _, rfl⟩, ⟨_, _, _, rfl⟩, ⟨HD2.out, fun _ => ⟨xs, ls, HVG.out.chg (chg_gr hX2 g)⟩, hS2.mono (by omega), hX2⟩⟩
          · go_wp2_with fail
            replace hS2 : Src C w2.drew b _ := hS2
            replace hX2 := gr_drew hX2
            replace HD2 : Hid (Dy w2.drew _ _ _) := HD2
            obtain ⟨y0, y1⟩ := HC.out _ hX2
            go_region_with (first | (go_at_call 30; (refine (srcNext_any C b _ 3 _ hS2 (by omega) (by omega) (by omega)).mono ?_; rintro e w5 ⟨r5, rfl, r50, r51, hS5, hG5⟩; obtain ⟨k5, rfl⟩ : ∃ k : Nat, r5 = (k : Int) := ⟨r5.toNat, by omega⟩; have hX5 := grownBy_trans hX2 hG5; have HD5 : Hid (Dy w5 w1.heap.size _ _) := dy_gr HD2.out hG5 (by omega); clear hS2 hX2 HD2 hG5; have hX2 := hX5; clear hX5 y0 y1; obtain ⟨y0, y1⟩ := HC.out _ hX2; obtain ⟨xs5, ls5, hv5⟩ := HR1.out.good k5 (by omega); obtain ⟨ia, ib, ic, ja, jb, jc, hu5, hv5'⟩ := hv5.slices; rw [hu5, hv5'] at hv5; have HVG5 : Hid (VgX w1 b g _ _ xs5 ls5) := hv5; clear hv5; obtain ⟨t0, t1⟩ := (HR1.out.cls.gr hX2 hgb.out).at' k5 (by omega); rw [hu5] at t0; rw [hv5'] at t1; clear hu5 hv5')) | (go_at_call 71; (refine (specSetJoin_of l03Join_any _ _ _ _ _ _ xs xs5 ls ls5 (Nat.le_refl _) (HVG.out.chg (chg_gr hX2 g)).2.2.1 (HVG.out.chg (chg_gr hX2 g)).2.2.2.1 (HVG5.out.chg (chg_gr hX2 g)).2.2.1 (HVG5.out.chg (chg_gr hX2 g)).2.2.2.1).mono ?_; rintro e w6 ⟨x6, y6, rfl, S6, hb6⟩; obtain ⟨a6, n6, k6, b6, m6, d6, rfl, rfl⟩ := S6.shape; have hM6 : Hid (Md C w1 b g w1.heap.size _ _ _ _ _) := md_sv HD5.out hS5 hX2 hb6 S6 (A' := A + 3 + 9 * (20 - i) + 3 + 6) (by omega) hlt1 (Nat.le_refl _) (by have := hX2.size; omega) (fun h0 => jn_good h0 HVG.out.1 HVG5.out.1); have hX6 := grownBy_trans hX2 (grownBy_below hb6 (Nat.le_refl _) _); have HD6 : Hid (Dy w6 w1.heap.size _ _) := HD5.out.on hb6; obtain ⟨⟨p0, p1⟩, pf⟩ := HD6.out; have f0 := pf 0; have f1 := pf 1; clear hX2; have hX2 := hX6; clear hX6)))
            all_goals
              go_wp2_with fail
              go_meet
            all_goals
              (case rel => exact ⟨_, _, _, rfl, ⟨_, _, _, rfl⟩, ⟨_, _, _, rfl⟩, hM6⟩)
      case rest =>
        obtain ⟨c, x, y, rfl, ⟨xa, xn, xc, rfl⟩, ⟨ya, yn, yc, rfl⟩, HM⟩ := hcut
        obtain ⟨⟨d0, d1⟩, _⟩ := HM.out.dy
        have hcl := HR1.out.cls.gr HM.out.gr hgb.out
        have f0 := hcl.free (k * 2)
        have f1 := hcl.free (k * 2 + 1)
        have e0 := (hcl.at' k hk).1
        have e1 := (hcl.at' k hk).2
        have HCL : Hid _ := hcl
        clear hcl
        by_cases hc : c = 0
        · subst hc
          have HG : Hid (Vg wc b g (.slice xa xn xc) (.slice ya yn yc)) := HM.out.good rfl
          go_wp2_with fail
          go_roundw
          case rel =>
            have hch : Chg wc ((wc.setCell ⟨g, k * 2, none⟩ (.slice xa xn xc)).setCell ⟨g, k * 2 + 1, none⟩ (.slice ya yn yc)) b g := ⟨by simp, fun m _ _ h2 => (heap_setCell_other _ ⟨g, k * 2 + 1, none⟩ m _ h2).trans (heap_setCell_other _ ⟨g, k * 2, none⟩ m _ h2)⟩
            refine ⟨i - 1, updF u k (.slice xa xn xc), updF v k (.slice ya yn yc), by omega, by go_num, HCL.out.put hk _ _, fun m hm => ?_, ((HM.out.src.set (by omega) _).set (by omega) _).mono (by omega), gr_put (gr_put (grownBy_trans HR1.out.gr HM.out.gr) hgw _ _) hgw _ _⟩
            unfold updF
            by_cases e : m = k
            · rw [if_pos e, if_pos e]
              exact HG.out.chg hch
            · rw [if_neg e, if_neg e]
              exact ((HR1.out.good m hm).chg (chg_gr HM.out.gr g)).chg hch
          case measure => simp [intOf]; omega
        · have hc1 : (c == 0) = false := by simpa using hc
          go_wp2_with fail
          go_roundw
          case rel => exact ⟨i - 1, u, v, by omega, by go_num, (HR1.out.on hgb.out HM.out.src HM.out.gr).mono (by omega)⟩
          case measure => simp [intOf]; omega
    · have j0 : ¬ (0 : Int) < (i : Int) := by omega
      go_wp2_with fail
      refine bodyPost_ret (v := .slice (some ⟨g, 0, none⟩) 3 3) ?_ rfl ⟨g, rfl, hgw, u, v, HR.out.mono (by omega)⟩
      simp [results, Tryz.results44, go_sem]

end Go.Proofs.YtfnlnigeaioocaaGreat
