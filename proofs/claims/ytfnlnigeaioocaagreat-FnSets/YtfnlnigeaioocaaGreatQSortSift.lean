/- What siftDownCmpFunc does at stamps. -/
import Derived.Test.YtfnlnigeaioocaaGreatQTakeKit
import Derived.Test.YtfnlnigeaioocaaGreatQSortIns
namespace Go.Proofs.YtfnlnigeaioocaaGreat
open Go.RowKit
open Go.Sort (swp insInner insOuter insertionSort siftDown heapBuild heapPop heapSort reverseLoop reverseRange)
set_option linter.unusedVariables false

/-- The child that the sifting looks at. -/
def Ch (hi first root c : Nat) (d : Array Sp) : Prop :=
  2 * root + 1 < hi ∧ ((c = 2 * root + 1 ∧ (¬ 2 * root + 2 < hi ∨ ltS d[first + (2 * root + 1)]! d[first + (2 * root + 1) + 1]! = false)) ∨ (c = 2 * root + 2 ∧ 2 * root + 2 < hi ∧ ltS d[first + (2 * root + 1)]! d[first + (2 * root + 1) + 1]! = true))
theorem sd_end {hi first root : Nat} (d : Array Sp) (h : hi ≤ 2 * root + 1) : siftDown ltS hi first root d = d := by
  rw [siftDown]
  simp [h]
theorem sd_next {hi first root c : Nat} {d : Array Sp} (h : Ch hi first root c d) : (ltS d[first + root]! d[first + c]! = false → siftDown ltS hi first root d = d) ∧ (ltS d[first + root]! d[first + c]! = true → siftDown ltS hi first root d = siftDown ltS hi first c (swp d (first + root) (first + c))) := by
  obtain ⟨h0, h1⟩ := h
  rcases h1 with ⟨rfl, h1⟩ | ⟨rfl, h1, h2⟩
  · have hc : (decide (2 * root + 1 + 1 < hi) && ltS d[first + (2 * root + 1)]! d[first + (2 * root + 1) + 1]!) = false := by
      rcases h1 with h1 | h1
      · simp [show ¬ 2 * root + 1 + 1 < hi from h1]
      · simp [h1]
    constructor
    · intro hl
      rw [siftDown, dif_neg (by omega), if_neg (by rw [hc]; decide), if_pos (by simp [hl])]
    · intro hl
      rw [siftDown, dif_neg (by omega), if_neg (by rw [hc]; decide), if_neg (by simp [hl])]
  · have hc : (decide (2 * root + 1 + 1 < hi) && ltS d[first + (2 * root + 1)]! d[first + (2 * root + 1) + 1]!) = true := by
      rw [h2, Bool.and_true]
      exact decide_eq_true (show 2 * root + 1 + 1 < hi from h1)
    constructor
    · intro hl
      rw [siftDown, dif_neg (by omega), if_pos hc, if_pos (by simp [hl])]
    · intro hl
      rw [siftDown, dif_neg (by omega), if_pos hc, if_neg (by simp [hl]), dif_pos h1]

set_option maxHeartbeats 8000000 in
set_option maxRecDepth 100000 in
theorem siftDown_any (W0 : World) (B g cap n lo hi first : Nat) (d : Array Sp) (w : World) (hn : d.size = n) (hsz : n ≤ 1048576) (hlo : lo ≤ hi) (hb : first + hi ≤ n) (hS : Sw W0 B g cap d w) :
    Calls Tryz.prog 107 #[.slice (some ⟨g, 0, none⟩) n cap, .int .i64 (lo : Int), .int .i64 (hi : Int), .int .i64 (first : Int), ordV] w fun e w' => e = .returned (.tuple #[]) ∧ Sw W0 B g cap (siftDown ltS hi first lo d) w' := by
  unfold ordV
  have HS : Hid _ := hS
  clear hS
  go_enter Tryz.func107, Tryz.ntmps107
  go_wp2_with fail
  go_loopw [10] (fun t10 wr => ∃ (root : Nat) (dk : Array Sp), t10 = .int .i64 (root : Int) ∧ root ≤ hi ∧ dk.size = n ∧ Hid (Sw W0 B g cap dk wr) ∧ Hid (siftDown ltS hi first root dk = siftDown ltS hi first lo d)) (fun t10 _ => hi - (intOf t10).toNat)
  case atStart => exact ⟨lo, d, rfl, hlo, hn, HS, rfl⟩
  case round =>
    clear HS
    obtain ⟨root, dk, rfl, hr0, hdk, HS, HE⟩ := hrel
    obtain ⟨c, hc⟩ : ∃ c : Nat, c = 2 * root + 1 := ⟨_, rfl⟩
    have hcI : 2 * (root : Int) + 1 = (c : Int) := by omega
    have hw1 : IntKind.i64.wrap (2 * (root : Int)) = 2 * (root : Int) := by rw [IntKind.wrap_i64]; omega
    have hw2 : IntKind.i64.wrap (c : Int) = (c : Int) := by rw [IntKind.wrap_i64]; omega
    by_cases h0 : hi ≤ c
    · have h0z : (hi : Int) ≤ (c : Int) := by omega
      have HN : Hid (siftDown ltS hi first root dk = dk) := sd_end dk (by omega)
      clear hc
      go_wp2_with fail
      refine bodyPost_end (v := .tuple #[]) ?_ rfl ⟨rfl, ?_⟩
      · simp [results, Tryz.results107, go_sem]
      · rw [← HE.out, HN.out]
        exact HS.out
    · have h0z : ¬ (hi : Int) ≤ (c : Int) := by omega
      have HC0 : Hid (c = 2 * root + 1) := hc
      obtain ⟨c1, hc1⟩ : ∃ c1 : Nat, c1 = c + 1 := ⟨_, rfl⟩
      have hc1I : (c : Int) + 1 = (c1 : Int) := by omega
      by_cases h1 : c1 < hi
      · have h1z : (c1 : Int) < (hi : Int) := by omega
        have HX : Hid ((ltS dk[first + c]! dk[first + c + 1]! = false → Ch hi first root c dk) ∧ (ltS dk[first + c]! dk[first + c + 1]! = true → Ch hi first root c1 dk)) := by
          subst hc1 hc
          exact ⟨fun h => ⟨by omega, .inl ⟨rfl, .inr h⟩⟩, fun h => ⟨by omega, .inr ⟨rfl, by omega, h⟩⟩⟩
        have HCB : Hid (root < c ∧ c ≤ hi ∧ root < c1 ∧ c1 ≤ hi) := by unfold Hid; omega
        obtain ⟨q, hq⟩ : ∃ q : Nat, q = first + c := ⟨_, rfl⟩
        obtain ⟨q1, hq1⟩ : ∃ q1 : Nat, q1 = q + 1 := ⟨_, rfl⟩
        have hqI : (first : Int) + (c : Int) = (q : Int) := by omega
        have hq1I : (q : Int) + 1 = (q1 : Int) := by omega
        have qn : q < n := by omega
        have q1n : q1 < n := by omega
        have b0 : (0 : Int) ≤ (q : Int) := by omega
        have b1 : (q : Int) < (n : Int) := by omega
        have b2 : (0 : Int) ≤ (q1 : Int) := by omega
        have b3 : (q1 : Int) < (n : Int) := by omega
        rw [← hq, ← hq1] at HX
        clear hc hc1 hq hq1
        have hxy := cmp_lt dk[q]! dk[q1]!
        obtain ⟨x0, x1⟩ := HS.out.at (i := q) (by omega)
        obtain ⟨y0, y1⟩ := HS.out.at (i := q1) (by omega)
        have HWW : Hid _ := fun w' (h : Sw W0 B g cap dk w') => h.swp (i := q) (j := q1) (by omega) (by omega)
        obtain ⟨⟨xt, xa⟩, hx⟩ : ∃ x, dk[q]! = x := ⟨_, rfl⟩
        obtain ⟨⟨yt, ya⟩, hy⟩ : ∃ x, dk[q1]! = x := ⟨_, rfl⟩
        rw [hx, hy] at hxy HWW
        rw [hx] at x0 x1
        rw [hy] at y0 y1
        simp only at x0 x1 y0 y1 hxy
        have hC := fun w => order_any xt xa yt ya w
        generalize cmpS xt xa yt ya = r at hC hxy
        rw [hx, hy] at HX
        rcases hxy with ⟨hr, hl⟩ | ⟨hr, hl⟩
        · have HCH : Hid (Ch hi first root c1 dk) := HX.out.2 hl
          clear hl HX hx hy HWW
          go_wp2_with fail
          refine wp_region_held_drew (S := fun w' => w'.cell? ⟨g, q * 2, none⟩ = some (.int .i64 xt) ∧ w'.cell? ⟨g, q * 2 + 1, none⟩ = some (.int .i64 xa) ∧ w'.cell? ⟨g, q1 * 2, none⟩ = some (.int .i64 yt) ∧ w'.cell? ⟨g, q1 * 2 + 1, none⟩ = some (.int .i64 ya)) (by kernel_rfl) ⟨x0, x1, y0, y1⟩ (fun hHeld => ?_)
          refine tkH 0 ((.int .i64 (c : Int))) rfl (Or.inl ⟨by rfl, by intro w hSw; obtain ⟨s0, s1, s2, s3⟩ := hSw; go_simp⟩) hHeld ?_
          simp only [tkS, Act.put]
          refine tkH 1 ((.int .i64 (c1 : Int))) rfl (Or.inl ⟨by rfl, by intro w hSw; obtain ⟨s0, s1, s2, s3⟩ := hSw; go_simp; rw [IntKind.wrap_i64]; omega⟩) hHeld ?_
          simp only [tkS, Act.put]
          refine tkH 2 ((.int .i64 (hi : Int))) rfl (Or.inl ⟨by rfl, by intro w hSw; obtain ⟨s0, s1, s2, s3⟩ := hSw; go_simp⟩) hHeld ?_
          simp only [tkS, Act.put]
          refine tkH 3 ((.bool true)) rfl (Or.inl ⟨by rfl, by intro w hSw; obtain ⟨s0, s1, s2, s3⟩ := hSw; go_simp⟩) hHeld ?_
          simp only [tkS, Act.put]
          refine tkH 4 ((.bool true)) rfl (Or.inl ⟨by rfl, by intro w hSw; obtain ⟨s0, s1, s2, s3⟩ := hSw; go_simp⟩) hHeld ?_
          simp only [tkS, Act.put]
          refine tkH 5 ((.func (.func 53) #[.agg #[]] #[])) rfl (Or.inl ⟨by rfl, by intro w hSw; obtain ⟨s0, s1, s2, s3⟩ := hSw; go_simp⟩) hHeld ?_
          simp only [tkS, Act.put]
          refine tkH 6 ((.slice (some ⟨g, 0, none⟩) n cap)) rfl (Or.inl ⟨by rfl, by intro w hSw; obtain ⟨s0, s1, s2, s3⟩ := hSw; go_simp⟩) hHeld ?_
          simp only [tkS, Act.put]
          refine tkH 7 ((.int .i64 (first : Int))) rfl (Or.inl ⟨by rfl, by intro w hSw; obtain ⟨s0, s1, s2, s3⟩ := hSw; go_simp⟩) hHeld ?_
          simp only [tkS, Act.put]
          refine tkH 8 ((.int .i64 (c : Int))) rfl (Or.inl ⟨by rfl, by intro w hSw; obtain ⟨s0, s1, s2, s3⟩ := hSw; go_simp⟩) hHeld ?_
          simp only [tkS, Act.put]
          refine tkH 9 ((.int .i64 (q : Int))) rfl (Or.inl ⟨by rfl, by intro w hSw; obtain ⟨s0, s1, s2, s3⟩ := hSw; go_simp; rw [IntKind.wrap_i64]; omega⟩) hHeld ?_
          simp only [tkS, Act.put]
          refine tkH 10 ((.pointer (some ⟨g, q * 2, none⟩))) rfl (Or.inl ⟨by rfl, by intro w hSw; obtain ⟨s0, s1, s2, s3⟩ := hSw; go_simp⟩) hHeld ?_
          simp only [tkS, Act.put]
          refine tkH 11 ((.agg #[.int .i64 xt, .int .i64 xa])) rfl (Or.inl ⟨by rfl, by intro w hSw; obtain ⟨s0, s1, s2, s3⟩ := hSw; go_simp⟩) hHeld ?_
          simp only [tkS, Act.put]
          refine tkH 12 ((.slice (some ⟨g, 0, none⟩) n cap)) rfl (Or.inl ⟨by rfl, by intro w hSw; obtain ⟨s0, s1, s2, s3⟩ := hSw; go_simp⟩) hHeld ?_
          simp only [tkS, Act.put]
          refine tkH 13 ((.int .i64 (first : Int))) rfl (Or.inl ⟨by rfl, by intro w hSw; obtain ⟨s0, s1, s2, s3⟩ := hSw; go_simp⟩) hHeld ?_
          simp only [tkS, Act.put]
          refine tkH 14 ((.int .i64 (c : Int))) rfl (Or.inl ⟨by rfl, by intro w hSw; obtain ⟨s0, s1, s2, s3⟩ := hSw; go_simp⟩) hHeld ?_
          simp only [tkS, Act.put]
          refine tkH 15 ((.int .i64 (q : Int))) rfl (Or.inl ⟨by rfl, by intro w hSw; obtain ⟨s0, s1, s2, s3⟩ := hSw; go_simp; rw [IntKind.wrap_i64]; omega⟩) hHeld ?_
          simp only [tkS, Act.put]
          refine tkH 16 ((.int .i64 (q1 : Int))) rfl (Or.inl ⟨by rfl, by intro w hSw; obtain ⟨s0, s1, s2, s3⟩ := hSw; go_simp; rw [IntKind.wrap_i64]; omega⟩) hHeld ?_
          simp only [tkS, Act.put]
          refine tkH 17 ((.pointer (some ⟨g, q1 * 2, none⟩))) rfl (Or.inl ⟨by rfl, by intro w hSw; obtain ⟨s0, s1, s2, s3⟩ := hSw; go_simp⟩) hHeld ?_
          simp only [tkS, Act.put]
          refine tkH 18 ((.agg #[.int .i64 yt, .int .i64 ya])) rfl (Or.inl ⟨by rfl, by intro w hSw; obtain ⟨s0, s1, s2, s3⟩ := hSw; go_simp⟩) hHeld ?_
          simp only [tkS, Act.put]
          refine wpAnyH_ready (rs := [19]) (by kernel_rfl) (by simp) ?_
          refine AllReadyH.cons rfl (fun K hK => ?_) AllReadyH.nil
          go_simp
          refine (hC _).mono ?_
          rintro e w3 ⟨rfl, hb2⟩
          go_wp2_with fail
          refine hK.out _ _ ⟨cell_on hb2 hHeld.1, cell_on hb2 hHeld.2.1, cell_on hb2 hHeld.2.2.1, cell_on hb2 hHeld.2.2.2⟩ (fun hHeld2 => ?_)
          clear hK K
          replace HS := swOn (swDrew HS) hb2
          clear hb2 x0 x1 y0 y1
          refine wpAnyH_take (i := 20) (v := (.bool true)) rfl (by kernel_rfl) (by kernel_rfl) (by kernel_rfl) (fun _ _ _ h => h) (Or.inl ⟨by rfl, by intro w hSw; obtain ⟨s0, s1, s2, s3⟩ := hSw; go_simp⟩) hHeld2 ?_
          simp only [tkS, Act.put]
          refine wpAnyH_take (i := 21) (v := (.bool true)) rfl (by kernel_rfl) (by kernel_rfl) (by kernel_rfl) (fun _ _ _ h => h) (Or.inl ⟨by rfl, by intro w hSw; obtain ⟨s0, s1, s2, s3⟩ := hSw; go_simp⟩) hHeld2 ?_
          simp only [tkS, Act.put]
          refine wpAnyH_done (by kernel_rfl) ?_ _
          clear hHeld hHeld2
          clear hqI hq1I b0 b1 b2 b3 hr hC qn q1n
          obtain ⟨p, hp⟩ : ∃ p : Nat, p = first + root := ⟨_, rfl⟩
          obtain ⟨q, hq⟩ : ∃ q : Nat, q = first + c1 := ⟨_, rfl⟩
          have hpI : (first : Int) + (root : Int) = (p : Int) := by omega
          have hqI : (first : Int) + (c1 : Int) = (q : Int) := by omega
          have pn : p < n := by omega
          have qn : q < n := by omega
          have b0 : (0 : Int) ≤ (p : Int) := by omega
          have b1 : (p : Int) < (n : Int) := by omega
          have b2 : (0 : Int) ≤ (q : Int) := by omega
          have b3 : (q : Int) < (n : Int) := by omega
          have HG := sd_next (hi := hi) (first := first) (root := root) (d := dk) HCH.out
          rw [← hp, ← hq] at HG
          have HPQ : Hid (p = first + root ∧ q = first + c1) := ⟨hp, hq⟩
          clear hp hq
          have hxy := cmp_lt dk[p]! dk[q]!
          obtain ⟨x0, x1⟩ := HS.out.at (i := p) (by omega)
          obtain ⟨y0, y1⟩ := HS.out.at (i := q) (by omega)
          have HWW : Hid _ := fun w' (h : Sw W0 B g cap dk w') => h.swp (i := p) (j := q) (by omega) (by omega)
          obtain ⟨⟨xt, xa⟩, hx⟩ : ∃ x, dk[p]! = x := ⟨_, rfl⟩
          obtain ⟨⟨yt, ya⟩, hy⟩ : ∃ x, dk[q]! = x := ⟨_, rfl⟩
          rw [hx, hy] at hxy HWW
          rw [hx] at x0 x1
          rw [hy] at y0 y1
          simp only at x0 x1 y0 y1 hxy
          have hC := fun w => order_any xt xa yt ya w
          generalize cmpS xt xa yt ya = r at hC hxy
          rw [hx, hy] at HG
          rcases hxy with ⟨hr, hl⟩ | ⟨hr, hl⟩
          · have HN : Hid _ := HG.2 hl
            clear hl HG
            go_wp2_with fail
            refine wp_region_held_drew (S := fun w' => w'.cell? ⟨g, p * 2, none⟩ = some (.int .i64 xt) ∧ w'.cell? ⟨g, p * 2 + 1, none⟩ = some (.int .i64 xa) ∧ w'.cell? ⟨g, q * 2, none⟩ = some (.int .i64 yt) ∧ w'.cell? ⟨g, q * 2 + 1, none⟩ = some (.int .i64 ya)) (by kernel_rfl) ⟨x0, x1, y0, y1⟩ (fun hHeld => ?_)
            refine tkH 0 ((.func (.func 53) #[.agg #[]] #[])) rfl (Or.inl ⟨by rfl, by intro w hSw; obtain ⟨s0, s1, s2, s3⟩ := hSw; go_simp⟩) hHeld ?_
            simp only [tkS, Act.put]
            refine tkH 1 ((.slice (some ⟨g, 0, none⟩) n cap)) rfl (Or.inl ⟨by rfl, by intro w hSw; obtain ⟨s0, s1, s2, s3⟩ := hSw; go_simp⟩) hHeld ?_
            simp only [tkS, Act.put]
            refine tkH 2 ((.int .i64 (first : Int))) rfl (Or.inl ⟨by rfl, by intro w hSw; obtain ⟨s0, s1, s2, s3⟩ := hSw; go_simp⟩) hHeld ?_
            simp only [tkS, Act.put]
            refine tkH 3 ((.int .i64 (root : Int))) rfl (Or.inl ⟨by rfl, by intro w hSw; obtain ⟨s0, s1, s2, s3⟩ := hSw; go_simp⟩) hHeld ?_
            simp only [tkS, Act.put]
            refine tkH 4 ((.int .i64 (p : Int))) rfl (Or.inl ⟨by rfl, by intro w hSw; obtain ⟨s0, s1, s2, s3⟩ := hSw; go_simp; rw [IntKind.wrap_i64]; omega⟩) hHeld ?_
            simp only [tkS, Act.put]
            refine tkH 5 ((.pointer (some ⟨g, p * 2, none⟩))) rfl (Or.inl ⟨by rfl, by intro w hSw; obtain ⟨s0, s1, s2, s3⟩ := hSw; go_simp⟩) hHeld ?_
            simp only [tkS, Act.put]
            refine tkH 6 ((.agg #[.int .i64 xt, .int .i64 xa])) rfl (Or.inl ⟨by rfl, by intro w hSw; obtain ⟨s0, s1, s2, s3⟩ := hSw; go_simp⟩) hHeld ?_
            simp only [tkS, Act.put]
            refine tkH 7 ((.slice (some ⟨g, 0, none⟩) n cap)) rfl (Or.inl ⟨by rfl, by intro w hSw; obtain ⟨s0, s1, s2, s3⟩ := hSw; go_simp⟩) hHeld ?_
            simp only [tkS, Act.put]
            refine tkH 8 ((.int .i64 (first : Int))) rfl (Or.inl ⟨by rfl, by intro w hSw; obtain ⟨s0, s1, s2, s3⟩ := hSw; go_simp⟩) hHeld ?_
            simp only [tkS, Act.put]
            refine tkH 9 ((.int .i64 (c1 : Int))) rfl (Or.inl ⟨by rfl, by intro w hSw; obtain ⟨s0, s1, s2, s3⟩ := hSw; go_simp⟩) hHeld ?_
            simp only [tkS, Act.put]
            refine tkH 10 ((.int .i64 (q : Int))) rfl (Or.inl ⟨by rfl, by intro w hSw; obtain ⟨s0, s1, s2, s3⟩ := hSw; go_simp; rw [IntKind.wrap_i64]; omega⟩) hHeld ?_
            simp only [tkS, Act.put]
            refine tkH 11 ((.pointer (some ⟨g, q * 2, none⟩))) rfl (Or.inl ⟨by rfl, by intro w hSw; obtain ⟨s0, s1, s2, s3⟩ := hSw; go_simp⟩) hHeld ?_
            simp only [tkS, Act.put]
            refine tkH 12 ((.agg #[.int .i64 yt, .int .i64 ya])) rfl (Or.inl ⟨by rfl, by intro w hSw; obtain ⟨s0, s1, s2, s3⟩ := hSw; go_simp⟩) hHeld ?_
            simp only [tkS, Act.put]
            refine wpAnyH_ready (rs := [13]) (by kernel_rfl) (by simp) ?_
            refine AllReadyH.cons rfl (fun K hK => ?_) AllReadyH.nil
            go_simp
            refine (hC _).mono ?_
            rintro e w5 ⟨rfl, hb2⟩
            go_wp2_with fail
            refine hK.out _ _ ⟨cell_on hb2 hHeld.1, cell_on hb2 hHeld.2.1, cell_on hb2 hHeld.2.2.1, cell_on hb2 hHeld.2.2.2⟩ (fun hHeld2 => ?_)
            clear hK K
            replace HS := swOn (swDrew HS) hb2
            clear hb2 x0 x1 y0 y1
            refine wpAnyH_take (i := 14) (v := (.bool true)) rfl (by kernel_rfl) (by kernel_rfl) (by kernel_rfl) (fun _ _ _ h => h) (Or.inl ⟨by rfl, by intro w hSw; obtain ⟨s0, s1, s2, s3⟩ := hSw; go_simp⟩) hHeld2 ?_
            simp only [tkS, Act.put]
            refine wpAnyH_take (i := 15) (v := (.bool false)) rfl (by kernel_rfl) (by kernel_rfl) (by kernel_rfl) (fun _ _ _ h => h) (Or.inl ⟨by rfl, by intro w hSw; obtain ⟨s0, s1, s2, s3⟩ := hSw; go_simp⟩) hHeld2 ?_
            simp only [tkS, Act.put]
            refine wpAnyH_done (by kernel_rfl) ?_ _
            clear hHeld hHeld2
            go_upto_region 6 with fail
            have hSd := (swDrew HS).out
            obtain ⟨x0, x1⟩ := hSd.at (i := p) (by omega)
            obtain ⟨y0, y1⟩ := hSd.at (i := q) (by omega)
            rw [hx] at x0 x1
            rw [hy] at y0 y1
            obtain ⟨u0, u1, u2, u3, ⟨e0, f0⟩, ⟨e1, f1⟩, ⟨e2, f2⟩, ⟨e3, f3⟩⟩ := HS.out.steps (i := p) (j := q) (by omega) (by omega) (.int .i64 yt) (.int .i64 ya) (.int .i64 xt)
            have HF : Hid (Sw W0 B g cap (swp dk p q) ((((w5.setCell ⟨g, p * 2, none⟩ (.int .i64 yt)).setCell ⟨g, p * 2 + 1, none⟩ (.int .i64 ya)).setCell ⟨g, q * 2, none⟩ (.int .i64 xt)).setCell ⟨g, q * 2 + 1, none⟩ (.int .i64 xa)).drew) := HWW.out _ hSd
            simp only at x0 x1 y0 y1
            clear hSd hx hy e0
            refine wp_region_held_drew (S := fun w' => True) (by kernel_rfl) trivial (fun hHeld => ?_)
            refine tkH 0 ((.slice (some ⟨g, 0, none⟩) n cap)) rfl (Or.inl ⟨by rfl, by intro w hSw; go_simp⟩) hHeld ?_
            simp only [tkS, Act.put]
            refine tkH 1 ((.int .i64 (first : Int))) rfl (Or.inl ⟨by rfl, by intro w hSw; go_simp⟩) hHeld ?_
            simp only [tkS, Act.put]
            refine tkH 2 ((.int .i64 (root : Int))) rfl (Or.inl ⟨by rfl, by intro w hSw; go_simp⟩) hHeld ?_
            simp only [tkS, Act.put]
            refine tkH 3 ((.int .i64 (p : Int))) rfl (Or.inl ⟨by rfl, by intro w hSw; go_simp; rw [IntKind.wrap_i64]; omega⟩) hHeld ?_
            simp only [tkS, Act.put]
            refine tkH 4 ((.slice (some ⟨g, 0, none⟩) n cap)) rfl (Or.inl ⟨by rfl, by intro w hSw; go_simp⟩) hHeld ?_
            simp only [tkS, Act.put]
            refine tkH 5 ((.int .i64 (first : Int))) rfl (Or.inl ⟨by rfl, by intro w hSw; go_simp⟩) hHeld ?_
            simp only [tkS, Act.put]
            refine tkH 6 ((.int .i64 (c1 : Int))) rfl (Or.inl ⟨by rfl, by intro w hSw; go_simp⟩) hHeld ?_
            simp only [tkS, Act.put]
            refine tkH 7 ((.int .i64 (q : Int))) rfl (Or.inl ⟨by rfl, by intro w hSw; go_simp; rw [IntKind.wrap_i64]; omega⟩) hHeld ?_
            simp only [tkS, Act.put]
            refine tkH 8 ((.slice (some ⟨g, 0, none⟩) n cap)) rfl (Or.inl ⟨by rfl, by intro w hSw; go_simp⟩) hHeld ?_
            simp only [tkS, Act.put]
            refine tkH 9 ((.int .i64 (first : Int))) rfl (Or.inl ⟨by rfl, by intro w hSw; go_simp⟩) hHeld ?_
            simp only [tkS, Act.put]
            refine tkH 10 ((.int .i64 (c1 : Int))) rfl (Or.inl ⟨by rfl, by intro w hSw; go_simp⟩) hHeld ?_
            simp only [tkS, Act.put]
            refine tkH 11 ((.int .i64 (q : Int))) rfl (Or.inl ⟨by rfl, by intro w hSw; go_simp; rw [IntKind.wrap_i64]; omega⟩) hHeld ?_
            simp only [tkS, Act.put]
            refine tkH 12 ((.pointer (some ⟨g, q * 2, none⟩))) rfl (Or.inl ⟨by rfl, by intro w hSw; go_simp⟩) hHeld ?_
            simp only [tkS, Act.put]
            refine tkH 14 ((.slice (some ⟨g, 0, none⟩) n cap)) rfl (Or.inl ⟨by rfl, by intro w hSw; go_simp⟩) hHeld ?_
            simp only [tkS, Act.put]
            refine tkH 15 ((.int .i64 (first : Int))) rfl (Or.inl ⟨by rfl, by intro w hSw; go_simp⟩) hHeld ?_
            simp only [tkS, Act.put]
            refine tkH 16 ((.int .i64 (root : Int))) rfl (Or.inl ⟨by rfl, by intro w hSw; go_simp⟩) hHeld ?_
            simp only [tkS, Act.put]
            refine tkH 17 ((.int .i64 (p : Int))) rfl (Or.inl ⟨by rfl, by intro w hSw; go_simp; rw [IntKind.wrap_i64]; omega⟩) hHeld ?_
            simp only [tkS, Act.put]
            refine tkH 18 ((.pointer (some ⟨g, p * 2, none⟩))) rfl (Or.inl ⟨by rfl, by intro w hSw; go_simp⟩) hHeld ?_
            simp only [tkS, Act.put]
            refine wpAnyH_ready (rs := [13, 19]) (by kernel_rfl) (by simp) ?_
            refine AllReadyH.cons rfl (fun K hK => ?wayA2) (AllReadyH.cons rfl (fun K hK => ?wayB2) AllReadyH.nil)
            case' wayA2 =>
              go_simp
              refine hK.out _ _ trivial (fun hHeld1 => ?_)
              clear hK K
              refine wpAnyH_ready (rs := [19]) (by kernel_rfl) (by simp) ?_
              refine AllReadyH.cons rfl (fun K hK => ?_) AllReadyH.nil
              go_simp
              refine hK.out _ _ trivial (fun hHeld2 => ?_)
              clear hK K
            case' wayB2 =>
              go_simp
              refine hK.out _ _ trivial (fun hHeld1 => ?_)
              clear hK K
              refine wpAnyH_ready (rs := [13]) (by kernel_rfl) (by simp) ?_
              refine AllReadyH.cons rfl (fun K hK => ?_) AllReadyH.nil
              go_simp
              refine hK.out _ _ trivial (fun hHeld2 => ?_)
              clear hK K
            all_goals
              refine wpAnyH_take (i := 20) (v := (.pointer (some ⟨g, p * 2, none⟩))) rfl (by kernel_rfl) (by kernel_rfl) (by kernel_rfl) (fun _ _ _ h => h) (Or.inl ⟨by rfl, by intro w hSw; go_simp⟩) hHeld2 ?_
              simp only [tkS, Act.put]
              refine wpAnyH_ready (rs := [21]) (by kernel_rfl) (by simp) ?_
              refine AllReadyH.cons rfl (fun K hK => ?_) AllReadyH.nil
              go_simp
              refine hK.out _ _ trivial (fun hHeld3 => ?_)
              clear hK K
              refine wpAnyH_take (i := 22) (v := (.pointer (some ⟨g, q * 2, none⟩))) rfl (by kernel_rfl) (by kernel_rfl) (by kernel_rfl) (fun _ _ _ h => h) (Or.inl ⟨by rfl, by intro w hSw; go_simp⟩) hHeld3 ?_
              simp only [tkS, Act.put]
              refine wpAnyH_ready (rs := [23]) (by kernel_rfl) (by simp) ?_
              refine AllReadyH.cons rfl (fun K hK => ?_) AllReadyH.nil
              go_simp
              refine hK.out _ _ trivial (fun hHeld4 => ?_)
              clear hK K
              refine wpAnyH_done (by kernel_rfl) ?_ _
            all_goals
              go_wp2_with fail
              go_roundw
              case rel => exact ⟨c1, swp dk p q, by go_num, by have := HCB.out; omega, by rw [swp_size]; exact hdk, HF, by unfold Hid; rw [← HE.out, HN.out]⟩
              case measure => have := HCB.out; simp [intOf]; omega
          · have HN : Hid _ := HG.1 hl
            clear hl HG HWW hx hy
            go_wp2_with fail
            refine wp_region_held_drew (S := fun w' => w'.cell? ⟨g, p * 2, none⟩ = some (.int .i64 xt) ∧ w'.cell? ⟨g, p * 2 + 1, none⟩ = some (.int .i64 xa) ∧ w'.cell? ⟨g, q * 2, none⟩ = some (.int .i64 yt) ∧ w'.cell? ⟨g, q * 2 + 1, none⟩ = some (.int .i64 ya)) (by kernel_rfl) ⟨x0, x1, y0, y1⟩ (fun hHeld => ?_)
            refine tkH 0 ((.func (.func 53) #[.agg #[]] #[])) rfl (Or.inl ⟨by rfl, by intro w hSw; obtain ⟨s0, s1, s2, s3⟩ := hSw; go_simp⟩) hHeld ?_
            simp only [tkS, Act.put]
            refine tkH 1 ((.slice (some ⟨g, 0, none⟩) n cap)) rfl (Or.inl ⟨by rfl, by intro w hSw; obtain ⟨s0, s1, s2, s3⟩ := hSw; go_simp⟩) hHeld ?_
            simp only [tkS, Act.put]
            refine tkH 2 ((.int .i64 (first : Int))) rfl (Or.inl ⟨by rfl, by intro w hSw; obtain ⟨s0, s1, s2, s3⟩ := hSw; go_simp⟩) hHeld ?_
            simp only [tkS, Act.put]
            refine tkH 3 ((.int .i64 (root : Int))) rfl (Or.inl ⟨by rfl, by intro w hSw; obtain ⟨s0, s1, s2, s3⟩ := hSw; go_simp⟩) hHeld ?_
            simp only [tkS, Act.put]
            refine tkH 4 ((.int .i64 (p : Int))) rfl (Or.inl ⟨by rfl, by intro w hSw; obtain ⟨s0, s1, s2, s3⟩ := hSw; go_simp; rw [IntKind.wrap_i64]; omega⟩) hHeld ?_
            simp only [tkS, Act.put]
            refine tkH 5 ((.pointer (some ⟨g, p * 2, none⟩))) rfl (Or.inl ⟨by rfl, by intro w hSw; obtain ⟨s0, s1, s2, s3⟩ := hSw; go_simp⟩) hHeld ?_
            simp only [tkS, Act.put]
            refine tkH 6 ((.agg #[.int .i64 xt, .int .i64 xa])) rfl (Or.inl ⟨by rfl, by intro w hSw; obtain ⟨s0, s1, s2, s3⟩ := hSw; go_simp⟩) hHeld ?_
            simp only [tkS, Act.put]
            refine tkH 7 ((.slice (some ⟨g, 0, none⟩) n cap)) rfl (Or.inl ⟨by rfl, by intro w hSw; obtain ⟨s0, s1, s2, s3⟩ := hSw; go_simp⟩) hHeld ?_
            simp only [tkS, Act.put]
            refine tkH 8 ((.int .i64 (first : Int))) rfl (Or.inl ⟨by rfl, by intro w hSw; obtain ⟨s0, s1, s2, s3⟩ := hSw; go_simp⟩) hHeld ?_
            simp only [tkS, Act.put]
            refine tkH 9 ((.int .i64 (c1 : Int))) rfl (Or.inl ⟨by rfl, by intro w hSw; obtain ⟨s0, s1, s2, s3⟩ := hSw; go_simp⟩) hHeld ?_
            simp only [tkS, Act.put]
            refine tkH 10 ((.int .i64 (q : Int))) rfl (Or.inl ⟨by rfl, by intro w hSw; obtain ⟨s0, s1, s2, s3⟩ := hSw; go_simp; rw [IntKind.wrap_i64]; omega⟩) hHeld ?_
            simp only [tkS, Act.put]
            refine tkH 11 ((.pointer (some ⟨g, q * 2, none⟩))) rfl (Or.inl ⟨by rfl, by intro w hSw; obtain ⟨s0, s1, s2, s3⟩ := hSw; go_simp⟩) hHeld ?_
            simp only [tkS, Act.put]
            refine tkH 12 ((.agg #[.int .i64 yt, .int .i64 ya])) rfl (Or.inl ⟨by rfl, by intro w hSw; obtain ⟨s0, s1, s2, s3⟩ := hSw; go_simp⟩) hHeld ?_
            simp only [tkS, Act.put]
            refine wpAnyH_ready (rs := [13]) (by kernel_rfl) (by simp) ?_
            refine AllReadyH.cons rfl (fun K hK => ?_) AllReadyH.nil
            go_simp
            refine (hC _).mono ?_
            rintro e w5 ⟨rfl, hb2⟩
            go_wp2_with fail
            refine hK.out _ _ ⟨cell_on hb2 hHeld.1, cell_on hb2 hHeld.2.1, cell_on hb2 hHeld.2.2.1, cell_on hb2 hHeld.2.2.2⟩ (fun hHeld2 => ?_)
            clear hK K
            replace HS := swOn (swDrew HS) hb2
            clear hb2 x0 x1 y0 y1
            refine wpAnyH_take (i := 14) (v := (.bool false)) rfl (by kernel_rfl) (by kernel_rfl) (by kernel_rfl) (fun _ _ _ h => h) (Or.inl ⟨by rfl, by intro w hSw; obtain ⟨s0, s1, s2, s3⟩ := hSw; go_simp⟩) hHeld2 ?_
            simp only [tkS, Act.put]
            refine wpAnyH_take (i := 15) (v := (.bool true)) rfl (by kernel_rfl) (by kernel_rfl) (by kernel_rfl) (fun _ _ _ h => h) (Or.inl ⟨by rfl, by intro w hSw; obtain ⟨s0, s1, s2, s3⟩ := hSw; go_simp⟩) hHeld2 ?_
            simp only [tkS, Act.put]
            refine wpAnyH_done (by kernel_rfl) ?_ _
            clear hHeld hHeld2
            go_wp2_with fail
            refine bodyPost_ret (v := .tuple #[]) ?_ rfl ⟨rfl, ?_⟩
            · simp [results, Tryz.results107, go_sem]
            · rw [← HE.out, HN.out]
              exact HS.out
        · have HCH : Hid (Ch hi first root c dk) := HX.out.1 hl
          clear hl HX hx hy HWW
          go_wp2_with fail
          refine wp_region_held_drew (S := fun w' => w'.cell? ⟨g, q * 2, none⟩ = some (.int .i64 xt) ∧ w'.cell? ⟨g, q * 2 + 1, none⟩ = some (.int .i64 xa) ∧ w'.cell? ⟨g, q1 * 2, none⟩ = some (.int .i64 yt) ∧ w'.cell? ⟨g, q1 * 2 + 1, none⟩ = some (.int .i64 ya)) (by kernel_rfl) ⟨x0, x1, y0, y1⟩ (fun hHeld => ?_)
          refine tkH 0 ((.int .i64 (c : Int))) rfl (Or.inl ⟨by rfl, by intro w hSw; obtain ⟨s0, s1, s2, s3⟩ := hSw; go_simp⟩) hHeld ?_
          simp only [tkS, Act.put]
          refine tkH 1 ((.int .i64 (c1 : Int))) rfl (Or.inl ⟨by rfl, by intro w hSw; obtain ⟨s0, s1, s2, s3⟩ := hSw; go_simp; rw [IntKind.wrap_i64]; omega⟩) hHeld ?_
          simp only [tkS, Act.put]
          refine tkH 2 ((.int .i64 (hi : Int))) rfl (Or.inl ⟨by rfl, by intro w hSw; obtain ⟨s0, s1, s2, s3⟩ := hSw; go_simp⟩) hHeld ?_
          simp only [tkS, Act.put]
          refine tkH 3 ((.bool true)) rfl (Or.inl ⟨by rfl, by intro w hSw; obtain ⟨s0, s1, s2, s3⟩ := hSw; go_simp⟩) hHeld ?_
          simp only [tkS, Act.put]
          refine tkH 4 ((.bool true)) rfl (Or.inl ⟨by rfl, by intro w hSw; obtain ⟨s0, s1, s2, s3⟩ := hSw; go_simp⟩) hHeld ?_
          simp only [tkS, Act.put]
          refine tkH 5 ((.func (.func 53) #[.agg #[]] #[])) rfl (Or.inl ⟨by rfl, by intro w hSw; obtain ⟨s0, s1, s2, s3⟩ := hSw; go_simp⟩) hHeld ?_
          simp only [tkS, Act.put]
          refine tkH 6 ((.slice (some ⟨g, 0, none⟩) n cap)) rfl (Or.inl ⟨by rfl, by intro w hSw; obtain ⟨s0, s1, s2, s3⟩ := hSw; go_simp⟩) hHeld ?_
          simp only [tkS, Act.put]
          refine tkH 7 ((.int .i64 (first : Int))) rfl (Or.inl ⟨by rfl, by intro w hSw; obtain ⟨s0, s1, s2, s3⟩ := hSw; go_simp⟩) hHeld ?_
          simp only [tkS, Act.put]
          refine tkH 8 ((.int .i64 (c : Int))) rfl (Or.inl ⟨by rfl, by intro w hSw; obtain ⟨s0, s1, s2, s3⟩ := hSw; go_simp⟩) hHeld ?_
          simp only [tkS, Act.put]
          refine tkH 9 ((.int .i64 (q : Int))) rfl (Or.inl ⟨by rfl, by intro w hSw; obtain ⟨s0, s1, s2, s3⟩ := hSw; go_simp; rw [IntKind.wrap_i64]; omega⟩) hHeld ?_
          simp only [tkS, Act.put]
          refine tkH 10 ((.pointer (some ⟨g, q * 2, none⟩))) rfl (Or.inl ⟨by rfl, by intro w hSw; obtain ⟨s0, s1, s2, s3⟩ := hSw; go_simp⟩) hHeld ?_
          simp only [tkS, Act.put]
          refine tkH 11 ((.agg #[.int .i64 xt, .int .i64 xa])) rfl (Or.inl ⟨by rfl, by intro w hSw; obtain ⟨s0, s1, s2, s3⟩ := hSw; go_simp⟩) hHeld ?_
          simp only [tkS, Act.put]
          refine tkH 12 ((.slice (some ⟨g, 0, none⟩) n cap)) rfl (Or.inl ⟨by rfl, by intro w hSw; obtain ⟨s0, s1, s2, s3⟩ := hSw; go_simp⟩) hHeld ?_
          simp only [tkS, Act.put]
          refine tkH 13 ((.int .i64 (first : Int))) rfl (Or.inl ⟨by rfl, by intro w hSw; obtain ⟨s0, s1, s2, s3⟩ := hSw; go_simp⟩) hHeld ?_
          simp only [tkS, Act.put]
          refine tkH 14 ((.int .i64 (c : Int))) rfl (Or.inl ⟨by rfl, by intro w hSw; obtain ⟨s0, s1, s2, s3⟩ := hSw; go_simp⟩) hHeld ?_
          simp only [tkS, Act.put]
          refine tkH 15 ((.int .i64 (q : Int))) rfl (Or.inl ⟨by rfl, by intro w hSw; obtain ⟨s0, s1, s2, s3⟩ := hSw; go_simp; rw [IntKind.wrap_i64]; omega⟩) hHeld ?_
          simp only [tkS, Act.put]
          refine tkH 16 ((.int .i64 (q1 : Int))) rfl (Or.inl ⟨by rfl, by intro w hSw; obtain ⟨s0, s1, s2, s3⟩ := hSw; go_simp; rw [IntKind.wrap_i64]; omega⟩) hHeld ?_
          simp only [tkS, Act.put]
          refine tkH 17 ((.pointer (some ⟨g, q1 * 2, none⟩))) rfl (Or.inl ⟨by rfl, by intro w hSw; obtain ⟨s0, s1, s2, s3⟩ := hSw; go_simp⟩) hHeld ?_
          simp only [tkS, Act.put]
          refine tkH 18 ((.agg #[.int .i64 yt, .int .i64 ya])) rfl (Or.inl ⟨by rfl, by intro w hSw; obtain ⟨s0, s1, s2, s3⟩ := hSw; go_simp⟩) hHeld ?_
          simp only [tkS, Act.put]
          refine wpAnyH_ready (rs := [19]) (by kernel_rfl) (by simp) ?_
          refine AllReadyH.cons rfl (fun K hK => ?_) AllReadyH.nil
          go_simp
          refine (hC _).mono ?_
          rintro e w3 ⟨rfl, hb2⟩
          go_wp2_with fail
          refine hK.out _ _ ⟨cell_on hb2 hHeld.1, cell_on hb2 hHeld.2.1, cell_on hb2 hHeld.2.2.1, cell_on hb2 hHeld.2.2.2⟩ (fun hHeld2 => ?_)
          clear hK K
          replace HS := swOn (swDrew HS) hb2
          clear hb2 x0 x1 y0 y1
          refine wpAnyH_take (i := 20) (v := (.bool false)) rfl (by kernel_rfl) (by kernel_rfl) (by kernel_rfl) (fun _ _ _ h => h) (Or.inl ⟨by rfl, by intro w hSw; obtain ⟨s0, s1, s2, s3⟩ := hSw; go_simp⟩) hHeld2 ?_
          simp only [tkS, Act.put]
          refine wpAnyH_take (i := 21) (v := (.bool false)) rfl (by kernel_rfl) (by kernel_rfl) (by kernel_rfl) (fun _ _ _ h => h) (Or.inl ⟨by rfl, by intro w hSw; obtain ⟨s0, s1, s2, s3⟩ := hSw; go_simp⟩) hHeld2 ?_
          simp only [tkS, Act.put]
          refine wpAnyH_done (by kernel_rfl) ?_ _
          clear hHeld hHeld2
          clear hqI hq1I b0 b1 b2 b3 hr hC qn q1n
          obtain ⟨p, hp⟩ : ∃ p : Nat, p = first + root := ⟨_, rfl⟩
          obtain ⟨q, hq⟩ : ∃ q : Nat, q = first + c := ⟨_, rfl⟩
          have hpI : (first : Int) + (root : Int) = (p : Int) := by omega
          have hqI : (first : Int) + (c : Int) = (q : Int) := by omega
          have pn : p < n := by omega
          have qn : q < n := by omega
          have b0 : (0 : Int) ≤ (p : Int) := by omega
          have b1 : (p : Int) < (n : Int) := by omega
          have b2 : (0 : Int) ≤ (q : Int) := by omega
          have b3 : (q : Int) < (n : Int) := by omega
          have HG := sd_next (hi := hi) (first := first) (root := root) (d := dk) HCH.out
          rw [← hp, ← hq] at HG
          have HPQ : Hid (p = first + root ∧ q = first + c) := ⟨hp, hq⟩
          clear hp hq
          have hxy := cmp_lt dk[p]! dk[q]!
          obtain ⟨x0, x1⟩ := HS.out.at (i := p) (by omega)
          obtain ⟨y0, y1⟩ := HS.out.at (i := q) (by omega)
          have HWW : Hid _ := fun w' (h : Sw W0 B g cap dk w') => h.swp (i := p) (j := q) (by omega) (by omega)
          obtain ⟨⟨xt, xa⟩, hx⟩ : ∃ x, dk[p]! = x := ⟨_, rfl⟩
          obtain ⟨⟨yt, ya⟩, hy⟩ : ∃ x, dk[q]! = x := ⟨_, rfl⟩
          rw [hx, hy] at hxy HWW
          rw [hx] at x0 x1
          rw [hy] at y0 y1
          simp only at x0 x1 y0 y1 hxy
          have hC := fun w => order_any xt xa yt ya w
          generalize cmpS xt xa yt ya = r at hC hxy
          rw [hx, hy] at HG
          rcases hxy with ⟨hr, hl⟩ | ⟨hr, hl⟩
          · have HN : Hid _ := HG.2 hl
            clear hl HG
            go_wp2_with fail
            refine wp_region_held_drew (S := fun w' => w'.cell? ⟨g, p * 2, none⟩ = some (.int .i64 xt) ∧ w'.cell? ⟨g, p * 2 + 1, none⟩ = some (.int .i64 xa) ∧ w'.cell? ⟨g, q * 2, none⟩ = some (.int .i64 yt) ∧ w'.cell? ⟨g, q * 2 + 1, none⟩ = some (.int .i64 ya)) (by kernel_rfl) ⟨x0, x1, y0, y1⟩ (fun hHeld => ?_)
            refine tkH 0 ((.func (.func 53) #[.agg #[]] #[])) rfl (Or.inl ⟨by rfl, by intro w hSw; obtain ⟨s0, s1, s2, s3⟩ := hSw; go_simp⟩) hHeld ?_
            simp only [tkS, Act.put]
            refine tkH 1 ((.slice (some ⟨g, 0, none⟩) n cap)) rfl (Or.inl ⟨by rfl, by intro w hSw; obtain ⟨s0, s1, s2, s3⟩ := hSw; go_simp⟩) hHeld ?_
            simp only [tkS, Act.put]
            refine tkH 2 ((.int .i64 (first : Int))) rfl (Or.inl ⟨by rfl, by intro w hSw; obtain ⟨s0, s1, s2, s3⟩ := hSw; go_simp⟩) hHeld ?_
            simp only [tkS, Act.put]
            refine tkH 3 ((.int .i64 (root : Int))) rfl (Or.inl ⟨by rfl, by intro w hSw; obtain ⟨s0, s1, s2, s3⟩ := hSw; go_simp⟩) hHeld ?_
            simp only [tkS, Act.put]
            refine tkH 4 ((.int .i64 (p : Int))) rfl (Or.inl ⟨by rfl, by intro w hSw; obtain ⟨s0, s1, s2, s3⟩ := hSw; go_simp; rw [IntKind.wrap_i64]; omega⟩) hHeld ?_
            simp only [tkS, Act.put]
            refine tkH 5 ((.pointer (some ⟨g, p * 2, none⟩))) rfl (Or.inl ⟨by rfl, by intro w hSw; obtain ⟨s0, s1, s2, s3⟩ := hSw; go_simp⟩) hHeld ?_
            simp only [tkS, Act.put]
            refine tkH 6 ((.agg #[.int .i64 xt, .int .i64 xa])) rfl (Or.inl ⟨by rfl, by intro w hSw; obtain ⟨s0, s1, s2, s3⟩ := hSw; go_simp⟩) hHeld ?_
            simp only [tkS, Act.put]
            refine tkH 7 ((.slice (some ⟨g, 0, none⟩) n cap)) rfl (Or.inl ⟨by rfl, by intro w hSw; obtain ⟨s0, s1, s2, s3⟩ := hSw; go_simp⟩) hHeld ?_
            simp only [tkS, Act.put]
            refine tkH 8 ((.int .i64 (first : Int))) rfl (Or.inl ⟨by rfl, by intro w hSw; obtain ⟨s0, s1, s2, s3⟩ := hSw; go_simp⟩) hHeld ?_
            simp only [tkS, Act.put]
            refine tkH 9 ((.int .i64 (c : Int))) rfl (Or.inl ⟨by rfl, by intro w hSw; obtain ⟨s0, s1, s2, s3⟩ := hSw; go_simp⟩) hHeld ?_
            simp only [tkS, Act.put]
            refine tkH 10 ((.int .i64 (q : Int))) rfl (Or.inl ⟨by rfl, by intro w hSw; obtain ⟨s0, s1, s2, s3⟩ := hSw; go_simp; rw [IntKind.wrap_i64]; omega⟩) hHeld ?_
            simp only [tkS, Act.put]
            refine tkH 11 ((.pointer (some ⟨g, q * 2, none⟩))) rfl (Or.inl ⟨by rfl, by intro w hSw; obtain ⟨s0, s1, s2, s3⟩ := hSw; go_simp⟩) hHeld ?_
            simp only [tkS, Act.put]
            refine tkH 12 ((.agg #[.int .i64 yt, .int .i64 ya])) rfl (Or.inl ⟨by rfl, by intro w hSw; obtain ⟨s0, s1, s2, s3⟩ := hSw; go_simp⟩) hHeld ?_
            simp only [tkS, Act.put]
            refine wpAnyH_ready (rs := [13]) (by kernel_rfl) (by simp) ?_
            refine AllReadyH.cons rfl (fun K hK => ?_) AllReadyH.nil
            go_simp
            refine (hC _).mono ?_
            rintro e w5 ⟨rfl, hb2⟩
            go_wp2_with fail
            refine hK.out _ _ ⟨cell_on hb2 hHeld.1, cell_on hb2 hHeld.2.1, cell_on hb2 hHeld.2.2.1, cell_on hb2 hHeld.2.2.2⟩ (fun hHeld2 => ?_)
            clear hK K
            replace HS := swOn (swDrew HS) hb2
            clear hb2 x0 x1 y0 y1
            refine wpAnyH_take (i := 14) (v := (.bool true)) rfl (by kernel_rfl) (by kernel_rfl) (by kernel_rfl) (fun _ _ _ h => h) (Or.inl ⟨by rfl, by intro w hSw; obtain ⟨s0, s1, s2, s3⟩ := hSw; go_simp⟩) hHeld2 ?_
            simp only [tkS, Act.put]
            refine wpAnyH_take (i := 15) (v := (.bool false)) rfl (by kernel_rfl) (by kernel_rfl) (by kernel_rfl) (fun _ _ _ h => h) (Or.inl ⟨by rfl, by intro w hSw; obtain ⟨s0, s1, s2, s3⟩ := hSw; go_simp⟩) hHeld2 ?_
            simp only [tkS, Act.put]
            refine wpAnyH_done (by kernel_rfl) ?_ _
            clear hHeld hHeld2
            go_upto_region 6 with fail
            have hSd := (swDrew HS).out
            obtain ⟨x0, x1⟩ := hSd.at (i := p) (by omega)
            obtain ⟨y0, y1⟩ := hSd.at (i := q) (by omega)
            rw [hx] at x0 x1
            rw [hy] at y0 y1
            obtain ⟨u0, u1, u2, u3, ⟨e0, f0⟩, ⟨e1, f1⟩, ⟨e2, f2⟩, ⟨e3, f3⟩⟩ := HS.out.steps (i := p) (j := q) (by omega) (by omega) (.int .i64 yt) (.int .i64 ya) (.int .i64 xt)
            have HF : Hid (Sw W0 B g cap (swp dk p q) ((((w5.setCell ⟨g, p * 2, none⟩ (.int .i64 yt)).setCell ⟨g, p * 2 + 1, none⟩ (.int .i64 ya)).setCell ⟨g, q * 2, none⟩ (.int .i64 xt)).setCell ⟨g, q * 2 + 1, none⟩ (.int .i64 xa)).drew) := HWW.out _ hSd
            simp only at x0 x1 y0 y1
            clear hSd hx hy e0
            refine wp_region_held_drew (S := fun w' => True) (by kernel_rfl) trivial (fun hHeld => ?_)
            refine tkH 0 ((.slice (some ⟨g, 0, none⟩) n cap)) rfl (Or.inl ⟨by rfl, by intro w hSw; go_simp⟩) hHeld ?_
            simp only [tkS, Act.put]
            refine tkH 1 ((.int .i64 (first : Int))) rfl (Or.inl ⟨by rfl, by intro w hSw; go_simp⟩) hHeld ?_
            simp only [tkS, Act.put]
            refine tkH 2 ((.int .i64 (root : Int))) rfl (Or.inl ⟨by rfl, by intro w hSw; go_simp⟩) hHeld ?_
            simp only [tkS, Act.put]
            refine tkH 3 ((.int .i64 (p : Int))) rfl (Or.inl ⟨by rfl, by intro w hSw; go_simp; rw [IntKind.wrap_i64]; omega⟩) hHeld ?_
            simp only [tkS, Act.put]
            refine tkH 4 ((.slice (some ⟨g, 0, none⟩) n cap)) rfl (Or.inl ⟨by rfl, by intro w hSw; go_simp⟩) hHeld ?_
            simp only [tkS, Act.put]
            refine tkH 5 ((.int .i64 (first : Int))) rfl (Or.inl ⟨by rfl, by intro w hSw; go_simp⟩) hHeld ?_
            simp only [tkS, Act.put]
            refine tkH 6 ((.int .i64 (c : Int))) rfl (Or.inl ⟨by rfl, by intro w hSw; go_simp⟩) hHeld ?_
            simp only [tkS, Act.put]
            refine tkH 7 ((.int .i64 (q : Int))) rfl (Or.inl ⟨by rfl, by intro w hSw; go_simp; rw [IntKind.wrap_i64]; omega⟩) hHeld ?_
            simp only [tkS, Act.put]
            refine tkH 8 ((.slice (some ⟨g, 0, none⟩) n cap)) rfl (Or.inl ⟨by rfl, by intro w hSw; go_simp⟩) hHeld ?_
            simp only [tkS, Act.put]
            refine tkH 9 ((.int .i64 (first : Int))) rfl (Or.inl ⟨by rfl, by intro w hSw; go_simp⟩) hHeld ?_
            simp only [tkS, Act.put]
            refine tkH 10 ((.int .i64 (c : Int))) rfl (Or.inl ⟨by rfl, by intro w hSw; go_simp⟩) hHeld ?_
            simp only [tkS, Act.put]
            refine tkH 11 ((.int .i64 (q : Int))) rfl (Or.inl ⟨by rfl, by intro w hSw; go_simp; rw [IntKind.wrap_i64]; omega⟩) hHeld ?_
            simp only [tkS, Act.put]
            refine tkH 12 ((.pointer (some ⟨g, q * 2, none⟩))) rfl (Or.inl ⟨by rfl, by intro w hSw; go_simp⟩) hHeld ?_
            simp only [tkS, Act.put]
            refine tkH 14 ((.slice (some ⟨g, 0, none⟩) n cap)) rfl (Or.inl ⟨by rfl, by intro w hSw; go_simp⟩) hHeld ?_
            simp only [tkS, Act.put]
            refine tkH 15 ((.int .i64 (first : Int))) rfl (Or.inl ⟨by rfl, by intro w hSw; go_simp⟩) hHeld ?_
            simp only [tkS, Act.put]
            refine tkH 16 ((.int .i64 (root : Int))) rfl (Or.inl ⟨by rfl, by intro w hSw; go_simp⟩) hHeld ?_
            simp only [tkS, Act.put]
            refine tkH 17 ((.int .i64 (p : Int))) rfl (Or.inl ⟨by rfl, by intro w hSw; go_simp; rw [IntKind.wrap_i64]; omega⟩) hHeld ?_
            simp only [tkS, Act.put]
            refine tkH 18 ((.pointer (some ⟨g, p * 2, none⟩))) rfl (Or.inl ⟨by rfl, by intro w hSw; go_simp⟩) hHeld ?_
            simp only [tkS, Act.put]
            refine wpAnyH_ready (rs := [13, 19]) (by kernel_rfl) (by simp) ?_
            refine AllReadyH.cons rfl (fun K hK => ?wayA3) (AllReadyH.cons rfl (fun K hK => ?wayB3) AllReadyH.nil)
            case' wayA3 =>
              go_simp
              refine hK.out _ _ trivial (fun hHeld1 => ?_)
              clear hK K
              refine wpAnyH_ready (rs := [19]) (by kernel_rfl) (by simp) ?_
              refine AllReadyH.cons rfl (fun K hK => ?_) AllReadyH.nil
              go_simp
              refine hK.out _ _ trivial (fun hHeld2 => ?_)
              clear hK K
            case' wayB3 =>
              go_simp
              refine hK.out _ _ trivial (fun hHeld1 => ?_)
              clear hK K
              refine wpAnyH_ready (rs := [13]) (by kernel_rfl) (by simp) ?_
              refine AllReadyH.cons rfl (fun K hK => ?_) AllReadyH.nil
              go_simp
              refine hK.out _ _ trivial (fun hHeld2 => ?_)
              clear hK K
            all_goals
              refine wpAnyH_take (i := 20) (v := (.pointer (some ⟨g, p * 2, none⟩))) rfl (by kernel_rfl) (by kernel_rfl) (by kernel_rfl) (fun _ _ _ h => h) (Or.inl ⟨by rfl, by intro w hSw; go_simp⟩) hHeld2 ?_
              simp only [tkS, Act.put]
              refine wpAnyH_ready (rs := [21]) (by kernel_rfl) (by simp) ?_
              refine AllReadyH.cons rfl (fun K hK => ?_) AllReadyH.nil
              go_simp
              refine hK.out _ _ trivial (fun hHeld3 => ?_)
              clear hK K
              refine wpAnyH_take (i := 22) (v := (.pointer (some ⟨g, q * 2, none⟩))) rfl (by kernel_rfl) (by kernel_rfl) (by kernel_rfl) (fun _ _ _ h => h) (Or.inl ⟨by rfl, by intro w hSw; go_simp⟩) hHeld3 ?_
              simp only [tkS, Act.put]
              refine wpAnyH_ready (rs := [23]) (by kernel_rfl) (by simp) ?_
              refine AllReadyH.cons rfl (fun K hK => ?_) AllReadyH.nil
              go_simp
              refine hK.out _ _ trivial (fun hHeld4 => ?_)
              clear hK K
              refine wpAnyH_done (by kernel_rfl) ?_ _
            all_goals
              go_wp2_with fail
              go_roundw
              case rel => exact ⟨c, swp dk p q, by go_num, by have := HCB.out; omega, by rw [swp_size]; exact hdk, HF, by unfold Hid; rw [← HE.out, HN.out]⟩
              case measure => have := HCB.out; simp [intOf]; omega
          · have HN : Hid _ := HG.1 hl
            clear hl HG HWW hx hy
            go_wp2_with fail
            refine wp_region_held_drew (S := fun w' => w'.cell? ⟨g, p * 2, none⟩ = some (.int .i64 xt) ∧ w'.cell? ⟨g, p * 2 + 1, none⟩ = some (.int .i64 xa) ∧ w'.cell? ⟨g, q * 2, none⟩ = some (.int .i64 yt) ∧ w'.cell? ⟨g, q * 2 + 1, none⟩ = some (.int .i64 ya)) (by kernel_rfl) ⟨x0, x1, y0, y1⟩ (fun hHeld => ?_)
            refine tkH 0 ((.func (.func 53) #[.agg #[]] #[])) rfl (Or.inl ⟨by rfl, by intro w hSw; obtain ⟨s0, s1, s2, s3⟩ := hSw; go_simp⟩) hHeld ?_
            simp only [tkS, Act.put]
            refine tkH 1 ((.slice (some ⟨g, 0, none⟩) n cap)) rfl (Or.inl ⟨by rfl, by intro w hSw; obtain ⟨s0, s1, s2, s3⟩ := hSw; go_simp⟩) hHeld ?_
            simp only [tkS, Act.put]
            refine tkH 2 ((.int .i64 (first : Int))) rfl (Or.inl ⟨by rfl, by intro w hSw; obtain ⟨s0, s1, s2, s3⟩ := hSw; go_simp⟩) hHeld ?_
            simp only [tkS, Act.put]
            refine tkH 3 ((.int .i64 (root : Int))) rfl (Or.inl ⟨by rfl, by intro w hSw; obtain ⟨s0, s1, s2, s3⟩ := hSw; go_simp⟩) hHeld ?_
            simp only [tkS, Act.put]
            refine tkH 4 ((.int .i64 (p : Int))) rfl (Or.inl ⟨by rfl, by intro w hSw; obtain ⟨s0, s1, s2, s3⟩ := hSw; go_simp; rw [IntKind.wrap_i64]; omega⟩) hHeld ?_
            simp only [tkS, Act.put]
            refine tkH 5 ((.pointer (some ⟨g, p * 2, none⟩))) rfl (Or.inl ⟨by rfl, by intro w hSw; obtain ⟨s0, s1, s2, s3⟩ := hSw; go_simp⟩) hHeld ?_
            simp only [tkS, Act.put]
            refine tkH 6 ((.agg #[.int .i64 xt, .int .i64 xa])) rfl (Or.inl ⟨by rfl, by intro w hSw; obtain ⟨s0, s1, s2, s3⟩ := hSw; go_simp⟩) hHeld ?_
            simp only [tkS, Act.put]
            refine tkH 7 ((.slice (some ⟨g, 0, none⟩) n cap)) rfl (Or.inl ⟨by rfl, by intro w hSw; obtain ⟨s0, s1, s2, s3⟩ := hSw; go_simp⟩) hHeld ?_
            simp only [tkS, Act.put]
            refine tkH 8 ((.int .i64 (first : Int))) rfl (Or.inl ⟨by rfl, by intro w hSw; obtain ⟨s0, s1, s2, s3⟩ := hSw; go_simp⟩) hHeld ?_
            simp only [tkS, Act.put]
            refine tkH 9 ((.int .i64 (c : Int))) rfl (Or.inl ⟨by rfl, by intro w hSw; obtain ⟨s0, s1, s2, s3⟩ := hSw; go_simp⟩) hHeld ?_
            simp only [tkS, Act.put]
            refine tkH 10 ((.int .i64 (q : Int))) rfl (Or.inl ⟨by rfl, by intro w hSw; obtain ⟨s0, s1, s2, s3⟩ := hSw; go_simp; rw [IntKind.wrap_i64]; omega⟩) hHeld ?_
            simp only [tkS, Act.put]
            refine tkH 11 ((.pointer (some ⟨g, q * 2, none⟩))) rfl (Or.inl ⟨by rfl, by intro w hSw; obtain ⟨s0, s1, s2, s3⟩ := hSw; go_simp⟩) hHeld ?_
            simp only [tkS, Act.put]
            refine tkH 12 ((.agg #[.int .i64 yt, .int .i64 ya])) rfl (Or.inl ⟨by rfl, by intro w hSw; obtain ⟨s0, s1, s2, s3⟩ := hSw; go_simp⟩) hHeld ?_
            simp only [tkS, Act.put]
            refine wpAnyH_ready (rs := [13]) (by kernel_rfl) (by simp) ?_
            refine AllReadyH.cons rfl (fun K hK => ?_) AllReadyH.nil
            go_simp
            refine (hC _).mono ?_
            rintro e w5 ⟨rfl, hb2⟩
            go_wp2_with fail
            refine hK.out _ _ ⟨cell_on hb2 hHeld.1, cell_on hb2 hHeld.2.1, cell_on hb2 hHeld.2.2.1, cell_on hb2 hHeld.2.2.2⟩ (fun hHeld2 => ?_)
            clear hK K
            replace HS := swOn (swDrew HS) hb2
            clear hb2 x0 x1 y0 y1
            refine wpAnyH_take (i := 14) (v := (.bool false)) rfl (by kernel_rfl) (by kernel_rfl) (by kernel_rfl) (fun _ _ _ h => h) (Or.inl ⟨by rfl, by intro w hSw; obtain ⟨s0, s1, s2, s3⟩ := hSw; go_simp⟩) hHeld2 ?_
            simp only [tkS, Act.put]
            refine wpAnyH_take (i := 15) (v := (.bool true)) rfl (by kernel_rfl) (by kernel_rfl) (by kernel_rfl) (fun _ _ _ h => h) (Or.inl ⟨by rfl, by intro w hSw; obtain ⟨s0, s1, s2, s3⟩ := hSw; go_simp⟩) hHeld2 ?_
            simp only [tkS, Act.put]
            refine wpAnyH_done (by kernel_rfl) ?_ _
            clear hHeld hHeld2
            go_wp2_with fail
            refine bodyPost_ret (v := .tuple #[]) ?_ rfl ⟨rfl, ?_⟩
            · simp [results, Tryz.results107, go_sem]
            · rw [← HE.out, HN.out]
              exact HS.out
      · have h1z : ¬ (c1 : Int) < (hi : Int) := by omega
        have HCH : Hid (Ch hi first root c dk) := by
          subst hc1 hc
          exact ⟨by omega, .inl ⟨rfl, .inl (by omega)⟩⟩
        have HCB : Hid (root < c ∧ c ≤ hi) := by unfold Hid; omega
        clear hc hc1
        go_wp2_with fail
        go_quiet (fail)
        replace HS := swDrewN HS nq
        generalize wr.drewN nq = w3 at *
        obtain ⟨p, hp⟩ : ∃ p : Nat, p = first + root := ⟨_, rfl⟩
        obtain ⟨q, hq⟩ : ∃ q : Nat, q = first + c := ⟨_, rfl⟩
        have hpI : (first : Int) + (root : Int) = (p : Int) := by omega
        have hqI : (first : Int) + (c : Int) = (q : Int) := by omega
        have pn : p < n := by omega
        have qn : q < n := by omega
        have b0 : (0 : Int) ≤ (p : Int) := by omega
        have b1 : (p : Int) < (n : Int) := by omega
        have b2 : (0 : Int) ≤ (q : Int) := by omega
        have b3 : (q : Int) < (n : Int) := by omega
        have HG := sd_next (hi := hi) (first := first) (root := root) (d := dk) HCH.out
        rw [← hp, ← hq] at HG
        have HPQ : Hid (p = first + root ∧ q = first + c) := ⟨hp, hq⟩
        clear hp hq
        have hxy := cmp_lt dk[p]! dk[q]!
        obtain ⟨x0, x1⟩ := HS.out.at (i := p) (by omega)
        obtain ⟨y0, y1⟩ := HS.out.at (i := q) (by omega)
        have HWW : Hid _ := fun w' (h : Sw W0 B g cap dk w') => h.swp (i := p) (j := q) (by omega) (by omega)
        obtain ⟨⟨xt, xa⟩, hx⟩ : ∃ x, dk[p]! = x := ⟨_, rfl⟩
        obtain ⟨⟨yt, ya⟩, hy⟩ : ∃ x, dk[q]! = x := ⟨_, rfl⟩
        rw [hx, hy] at hxy HWW
        rw [hx] at x0 x1
        rw [hy] at y0 y1
        simp only at x0 x1 y0 y1 hxy
        have hC := fun w => order_any xt xa yt ya w
        generalize cmpS xt xa yt ya = r at hC hxy
        rw [hx, hy] at HG
        rcases hxy with ⟨hr, hl⟩ | ⟨hr, hl⟩
        · have HN : Hid _ := HG.2 hl
          clear hl HG
          go_wp2_with fail
          refine wp_region_held_drew (S := fun w' => w'.cell? ⟨g, p * 2, none⟩ = some (.int .i64 xt) ∧ w'.cell? ⟨g, p * 2 + 1, none⟩ = some (.int .i64 xa) ∧ w'.cell? ⟨g, q * 2, none⟩ = some (.int .i64 yt) ∧ w'.cell? ⟨g, q * 2 + 1, none⟩ = some (.int .i64 ya)) (by kernel_rfl) ⟨x0, x1, y0, y1⟩ (fun hHeld => ?_)
          refine tkH 0 ((.func (.func 53) #[.agg #[]] #[])) rfl (Or.inl ⟨by rfl, by intro w hSw; obtain ⟨s0, s1, s2, s3⟩ := hSw; go_simp⟩) hHeld ?_
          simp only [tkS, Act.put]
          refine tkH 1 ((.slice (some ⟨g, 0, none⟩) n cap)) rfl (Or.inl ⟨by rfl, by intro w hSw; obtain ⟨s0, s1, s2, s3⟩ := hSw; go_simp⟩) hHeld ?_
          simp only [tkS, Act.put]
          refine tkH 2 ((.int .i64 (first : Int))) rfl (Or.inl ⟨by rfl, by intro w hSw; obtain ⟨s0, s1, s2, s3⟩ := hSw; go_simp⟩) hHeld ?_
          simp only [tkS, Act.put]
          refine tkH 3 ((.int .i64 (root : Int))) rfl (Or.inl ⟨by rfl, by intro w hSw; obtain ⟨s0, s1, s2, s3⟩ := hSw; go_simp⟩) hHeld ?_
          simp only [tkS, Act.put]
          refine tkH 4 ((.int .i64 (p : Int))) rfl (Or.inl ⟨by rfl, by intro w hSw; obtain ⟨s0, s1, s2, s3⟩ := hSw; go_simp; rw [IntKind.wrap_i64]; omega⟩) hHeld ?_
          simp only [tkS, Act.put]
          refine tkH 5 ((.pointer (some ⟨g, p * 2, none⟩))) rfl (Or.inl ⟨by rfl, by intro w hSw; obtain ⟨s0, s1, s2, s3⟩ := hSw; go_simp⟩) hHeld ?_
          simp only [tkS, Act.put]
          refine tkH 6 ((.agg #[.int .i64 xt, .int .i64 xa])) rfl (Or.inl ⟨by rfl, by intro w hSw; obtain ⟨s0, s1, s2, s3⟩ := hSw; go_simp⟩) hHeld ?_
          simp only [tkS, Act.put]
          refine tkH 7 ((.slice (some ⟨g, 0, none⟩) n cap)) rfl (Or.inl ⟨by rfl, by intro w hSw; obtain ⟨s0, s1, s2, s3⟩ := hSw; go_simp⟩) hHeld ?_
          simp only [tkS, Act.put]
          refine tkH 8 ((.int .i64 (first : Int))) rfl (Or.inl ⟨by rfl, by intro w hSw; obtain ⟨s0, s1, s2, s3⟩ := hSw; go_simp⟩) hHeld ?_
          simp only [tkS, Act.put]
          refine tkH 9 ((.int .i64 (c : Int))) rfl (Or.inl ⟨by rfl, by intro w hSw; obtain ⟨s0, s1, s2, s3⟩ := hSw; go_simp⟩) hHeld ?_
          simp only [tkS, Act.put]
          refine tkH 10 ((.int .i64 (q : Int))) rfl (Or.inl ⟨by rfl, by intro w hSw; obtain ⟨s0, s1, s2, s3⟩ := hSw; go_simp; rw [IntKind.wrap_i64]; omega⟩) hHeld ?_
          simp only [tkS, Act.put]
          refine tkH 11 ((.pointer (some ⟨g, q * 2, none⟩))) rfl (Or.inl ⟨by rfl, by intro w hSw; obtain ⟨s0, s1, s2, s3⟩ := hSw; go_simp⟩) hHeld ?_
          simp only [tkS, Act.put]
          refine tkH 12 ((.agg #[.int .i64 yt, .int .i64 ya])) rfl (Or.inl ⟨by rfl, by intro w hSw; obtain ⟨s0, s1, s2, s3⟩ := hSw; go_simp⟩) hHeld ?_
          simp only [tkS, Act.put]
          refine wpAnyH_ready (rs := [13]) (by kernel_rfl) (by simp) ?_
          refine AllReadyH.cons rfl (fun K hK => ?_) AllReadyH.nil
          go_simp
          refine (hC _).mono ?_
          rintro e w5 ⟨rfl, hb2⟩
          go_wp2_with fail
          refine hK.out _ _ ⟨cell_on hb2 hHeld.1, cell_on hb2 hHeld.2.1, cell_on hb2 hHeld.2.2.1, cell_on hb2 hHeld.2.2.2⟩ (fun hHeld2 => ?_)
          clear hK K
          replace HS := swOn (swDrew HS) hb2
          clear hb2 x0 x1 y0 y1
          refine wpAnyH_take (i := 14) (v := (.bool true)) rfl (by kernel_rfl) (by kernel_rfl) (by kernel_rfl) (fun _ _ _ h => h) (Or.inl ⟨by rfl, by intro w hSw; obtain ⟨s0, s1, s2, s3⟩ := hSw; go_simp⟩) hHeld2 ?_
          simp only [tkS, Act.put]
          refine wpAnyH_take (i := 15) (v := (.bool false)) rfl (by kernel_rfl) (by kernel_rfl) (by kernel_rfl) (fun _ _ _ h => h) (Or.inl ⟨by rfl, by intro w hSw; obtain ⟨s0, s1, s2, s3⟩ := hSw; go_simp⟩) hHeld2 ?_
          simp only [tkS, Act.put]
          refine wpAnyH_done (by kernel_rfl) ?_ _
          clear hHeld hHeld2
          go_upto_region 6 with fail
          have hSd := (swDrew HS).out
          obtain ⟨x0, x1⟩ := hSd.at (i := p) (by omega)
          obtain ⟨y0, y1⟩ := hSd.at (i := q) (by omega)
          rw [hx] at x0 x1
          rw [hy] at y0 y1
          obtain ⟨u0, u1, u2, u3, ⟨e0, f0⟩, ⟨e1, f1⟩, ⟨e2, f2⟩, ⟨e3, f3⟩⟩ := HS.out.steps (i := p) (j := q) (by omega) (by omega) (.int .i64 yt) (.int .i64 ya) (.int .i64 xt)
          have HF : Hid (Sw W0 B g cap (swp dk p q) ((((w5.setCell ⟨g, p * 2, none⟩ (.int .i64 yt)).setCell ⟨g, p * 2 + 1, none⟩ (.int .i64 ya)).setCell ⟨g, q * 2, none⟩ (.int .i64 xt)).setCell ⟨g, q * 2 + 1, none⟩ (.int .i64 xa)).drew) := HWW.out _ hSd
          simp only at x0 x1 y0 y1
          clear hSd hx hy e0
          refine wp_region_held_drew (S := fun w' => True) (by kernel_rfl) trivial (fun hHeld => ?_)
          refine tkH 0 ((.slice (some ⟨g, 0, none⟩) n cap)) rfl (Or.inl ⟨by rfl, by intro w hSw; go_simp⟩) hHeld ?_
          simp only [tkS, Act.put]
          refine tkH 1 ((.int .i64 (first : Int))) rfl (Or.inl ⟨by rfl, by intro w hSw; go_simp⟩) hHeld ?_
          simp only [tkS, Act.put]
          refine tkH 2 ((.int .i64 (root : Int))) rfl (Or.inl ⟨by rfl, by intro w hSw; go_simp⟩) hHeld ?_
          simp only [tkS, Act.put]
          refine tkH 3 ((.int .i64 (p : Int))) rfl (Or.inl ⟨by rfl, by intro w hSw; go_simp; rw [IntKind.wrap_i64]; omega⟩) hHeld ?_
          simp only [tkS, Act.put]
          refine tkH 4 ((.slice (some ⟨g, 0, none⟩) n cap)) rfl (Or.inl ⟨by rfl, by intro w hSw; go_simp⟩) hHeld ?_
          simp only [tkS, Act.put]
          refine tkH 5 ((.int .i64 (first : Int))) rfl (Or.inl ⟨by rfl, by intro w hSw; go_simp⟩) hHeld ?_
          simp only [tkS, Act.put]
          refine tkH 6 ((.int .i64 (c : Int))) rfl (Or.inl ⟨by rfl, by intro w hSw; go_simp⟩) hHeld ?_
          simp only [tkS, Act.put]
          refine tkH 7 ((.int .i64 (q : Int))) rfl (Or.inl ⟨by rfl, by intro w hSw; go_simp; rw [IntKind.wrap_i64]; omega⟩) hHeld ?_
          simp only [tkS, Act.put]
          refine tkH 8 ((.slice (some ⟨g, 0, none⟩) n cap)) rfl (Or.inl ⟨by rfl, by intro w hSw; go_simp⟩) hHeld ?_
          simp only [tkS, Act.put]
          refine tkH 9 ((.int .i64 (first : Int))) rfl (Or.inl ⟨by rfl, by intro w hSw; go_simp⟩) hHeld ?_
          simp only [tkS, Act.put]
          refine tkH 10 ((.int .i64 (c : Int))) rfl (Or.inl ⟨by rfl, by intro w hSw; go_simp⟩) hHeld ?_
          simp only [tkS, Act.put]
          refine tkH 11 ((.int .i64 (q : Int))) rfl (Or.inl ⟨by rfl, by intro w hSw; go_simp; rw [IntKind.wrap_i64]; omega⟩) hHeld ?_
          simp only [tkS, Act.put]
          refine tkH 12 ((.pointer (some ⟨g, q * 2, none⟩))) rfl (Or.inl ⟨by rfl, by intro w hSw; go_simp⟩) hHeld ?_
          simp only [tkS, Act.put]
          refine tkH 14 ((.slice (some ⟨g, 0, none⟩) n cap)) rfl (Or.inl ⟨by rfl, by intro w hSw; go_simp⟩) hHeld ?_
          simp only [tkS, Act.put]
          refine tkH 15 ((.int .i64 (first : Int))) rfl (Or.inl ⟨by rfl, by intro w hSw; go_simp⟩) hHeld ?_
          simp only [tkS, Act.put]
          refine tkH 16 ((.int .i64 (root : Int))) rfl (Or.inl ⟨by rfl, by intro w hSw; go_simp⟩) hHeld ?_
          simp only [tkS, Act.put]
          refine tkH 17 ((.int .i64 (p : Int))) rfl (Or.inl ⟨by rfl, by intro w hSw; go_simp; rw [IntKind.wrap_i64]; omega⟩) hHeld ?_
          simp only [tkS, Act.put]
          refine tkH 18 ((.pointer (some ⟨g, p * 2, none⟩))) rfl (Or.inl ⟨by rfl, by intro w hSw; go_simp⟩) hHeld ?_
          simp only [tkS, Act.put]
          refine wpAnyH_ready (rs := [13, 19]) (by kernel_rfl) (by simp) ?_
          refine AllReadyH.cons rfl (fun K hK => ?wayA1) (AllReadyH.cons rfl (fun K hK => ?wayB1) AllReadyH.nil)
          case' wayA1 =>
            go_simp
            refine hK.out _ _ trivial (fun hHeld1 => ?_)
            clear hK K
            refine wpAnyH_ready (rs := [19]) (by kernel_rfl) (by simp) ?_
            refine AllReadyH.cons rfl (fun K hK => ?_) AllReadyH.nil
            go_simp
            refine hK.out _ _ trivial (fun hHeld2 => ?_)
            clear hK K
          case' wayB1 =>
            go_simp
            refine hK.out _ _ trivial (fun hHeld1 => ?_)
            clear hK K
            refine wpAnyH_ready (rs := [13]) (by kernel_rfl) (by simp) ?_
            refine AllReadyH.cons rfl (fun K hK => ?_) AllReadyH.nil
            go_simp
            refine hK.out _ _ trivial (fun hHeld2 => ?_)
            clear hK K
          all_goals
            refine wpAnyH_take (i := 20) (v := (.pointer (some ⟨g, p * 2, none⟩))) rfl (by kernel_rfl) (by kernel_rfl) (by kernel_rfl) (fun _ _ _ h => h) (Or.inl ⟨by rfl, by intro w hSw; go_simp⟩) hHeld2 ?_
            simp only [tkS, Act.put]
            refine wpAnyH_ready (rs := [21]) (by kernel_rfl) (by simp) ?_
            refine AllReadyH.cons rfl (fun K hK => ?_) AllReadyH.nil
            go_simp
            refine hK.out _ _ trivial (fun hHeld3 => ?_)
            clear hK K
            refine wpAnyH_take (i := 22) (v := (.pointer (some ⟨g, q * 2, none⟩))) rfl (by kernel_rfl) (by kernel_rfl) (by kernel_rfl) (fun _ _ _ h => h) (Or.inl ⟨by rfl, by intro w hSw; go_simp⟩) hHeld3 ?_
            simp only [tkS, Act.put]
            refine wpAnyH_ready (rs := [23]) (by kernel_rfl) (by simp) ?_
            refine AllReadyH.cons rfl (fun K hK => ?_) AllReadyH.nil
            go_simp
            refine hK.out _ _ trivial (fun hHeld4 => ?_)
            clear hK K
            refine wpAnyH_done (by kernel_rfl) ?_ _
          all_goals
            go_wp2_with fail
            go_roundw
            case rel => exact ⟨c, swp dk p q, by go_num, by have := HCB.out; omega, by rw [swp_size]; exact hdk, HF, by unfold Hid; rw [← HE.out, HN.out]⟩
            case measure => have := HCB.out; simp [intOf]; omega
        · have HN : Hid _ := HG.1 hl
          clear hl HG HWW hx hy
          go_wp2_with fail
          refine wp_region_held_drew (S := fun w' => w'.cell? ⟨g, p * 2, none⟩ = some (.int .i64 xt) ∧ w'.cell? ⟨g, p * 2 + 1, none⟩ = some (.int .i64 xa) ∧ w'.cell? ⟨g, q * 2, none⟩ = some (.int .i64 yt) ∧ w'.cell? ⟨g, q * 2 + 1, none⟩ = some (.int .i64 ya)) (by kernel_rfl) ⟨x0, x1, y0, y1⟩ (fun hHeld => ?_)
          refine tkH 0 ((.func (.func 53) #[.agg #[]] #[])) rfl (Or.inl ⟨by rfl, by intro w hSw; obtain ⟨s0, s1, s2, s3⟩ := hSw; go_simp⟩) hHeld ?_
          simp only [tkS, Act.put]
          refine tkH 1 ((.slice (some ⟨g, 0, none⟩) n cap)) rfl (Or.inl ⟨by rfl, by intro w hSw; obtain ⟨s0, s1, s2, s3⟩ := hSw; go_simp⟩) hHeld ?_
          simp only [tkS, Act.put]
          refine tkH 2 ((.int .i64 (first : Int))) rfl (Or.inl ⟨by rfl, by intro w hSw; obtain ⟨s0, s1, s2, s3⟩ := hSw; go_simp⟩) hHeld ?_
          simp only [tkS, Act.put]
          refine tkH 3 ((.int .i64 (root : Int))) rfl (Or.inl ⟨by rfl, by intro w hSw; obtain ⟨s0, s1, s2, s3⟩ := hSw; go_simp⟩) hHeld ?_
          simp only [tkS, Act.put]
          refine tkH 4 ((.int .i64 (p : Int))) rfl (Or.inl ⟨by rfl, by intro w hSw; obtain ⟨s0, s1, s2, s3⟩ := hSw; go_simp; rw [IntKind.wrap_i64]; omega⟩) hHeld ?_
          simp only [tkS, Act.put]
          refine tkH 5 ((.pointer (some ⟨g, p * 2, none⟩))) rfl (Or.inl ⟨by rfl, by intro w hSw; obtain ⟨s0, s1, s2, s3⟩ := hSw; go_simp⟩) hHeld ?_
          simp only [tkS, Act.put]
          refine tkH 6 ((.agg #[.int .i64 xt, .int .i64 xa])) rfl (Or.inl ⟨by rfl, by intro w hSw; obtain ⟨s0, s1, s2, s3⟩ := hSw; go_simp⟩) hHeld ?_
          simp only [tkS, Act.put]
          refine tkH 7 ((.slice (some ⟨g, 0, none⟩) n cap)) rfl (Or.inl ⟨by rfl, by intro w hSw; obtain ⟨s0, s1, s2, s3⟩ := hSw; go_simp⟩) hHeld ?_
          simp only [tkS, Act.put]
          refine tkH 8 ((.int .i64 (first : Int))) rfl (Or.inl ⟨by rfl, by intro w hSw; obtain ⟨s0, s1, s2, s3⟩ := hSw; go_simp⟩) hHeld ?_
          simp only [tkS, Act.put]
          refine tkH 9 ((.int .i64 (c : Int))) rfl (Or.inl ⟨by rfl, by intro w hSw; obtain ⟨s0, s1, s2, s3⟩ := hSw; go_simp⟩) hHeld ?_
          simp only [tkS, Act.put]
          refine tkH 10 ((.int .i64 (q : Int))) rfl (Or.inl ⟨by rfl, by intro w hSw; obtain ⟨s0, s1, s2, s3⟩ := hSw; go_simp; rw [IntKind.wrap_i64]; omega⟩) hHeld ?_
          simp only [tkS, Act.put]
          refine tkH 11 ((.pointer (some ⟨g, q * 2, none⟩))) rfl (Or.inl ⟨by rfl, by intro w hSw; obtain ⟨s0, s1, s2, s3⟩ := hSw; go_simp⟩) hHeld ?_
          simp only [tkS, Act.put]
          refine tkH 12 ((.agg #[.int .i64 yt, .int .i64 ya])) rfl (Or.inl ⟨by rfl, by intro w hSw; obtain ⟨s0, s1, s2, s3⟩ := hSw; go_simp⟩) hHeld ?_
          simp only [tkS, Act.put]
          refine wpAnyH_ready (rs := [13]) (by kernel_rfl) (by simp) ?_
          refine AllReadyH.cons rfl (fun K hK => ?_) AllReadyH.nil
          go_simp
          refine (hC _).mono ?_
          rintro e w5 ⟨rfl, hb2⟩
          go_wp2_with fail
          refine hK.out _ _ ⟨cell_on hb2 hHeld.1, cell_on hb2 hHeld.2.1, cell_on hb2 hHeld.2.2.1, cell_on hb2 hHeld.2.2.2⟩ (fun hHeld2 => ?_)
          clear hK K
          replace HS := swOn (swDrew HS) hb2
          clear hb2 x0 x1 y0 y1
          refine wpAnyH_take (i := 14) (v := (.bool false)) rfl (by kernel_rfl) (by kernel_rfl) (by kernel_rfl) (fun _ _ _ h => h) (Or.inl ⟨by rfl, by intro w hSw; obtain ⟨s0, s1, s2, s3⟩ := hSw; go_simp⟩) hHeld2 ?_
          simp only [tkS, Act.put]
          refine wpAnyH_take (i := 15) (v := (.bool true)) rfl (by kernel_rfl) (by kernel_rfl) (by kernel_rfl) (fun _ _ _ h => h) (Or.inl ⟨by rfl, by intro w hSw; obtain ⟨s0, s1, s2, s3⟩ := hSw; go_simp⟩) hHeld2 ?_
          simp only [tkS, Act.put]
          refine wpAnyH_done (by kernel_rfl) ?_ _
          clear hHeld hHeld2
          go_wp2_with fail
          refine bodyPost_ret (v := .tuple #[]) ?_ rfl ⟨rfl, ?_⟩
          · simp [results, Tryz.results107, go_sem]
          · rw [← HE.out, HN.out]
            exact HS.out

end Go.Proofs.YtfnlnigeaioocaaGreat
