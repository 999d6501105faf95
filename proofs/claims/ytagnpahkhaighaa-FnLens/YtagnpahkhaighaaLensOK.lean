/- Valid steps and lenses: what the code's lensStepOf and lensStepsOf and the specification's l14LensOK answer. -/
import Derived.Test.YtagnpahkhaighaaStepRows
import Derived.Test.YtagnpahkhaighaaWordOKs
import Derived.Test.YtagnpahkhaighaaQuietKeep
namespace Go.Proofs.Ytagnpahkhaighaa
open Go.RowKit
set_option linter.unusedVariables false

def keyB (s : ByteArray) : Bool := !s.toList.isEmpty && decide (s.size ≤ 200)

set_option maxHeartbeats 400000 in
theorem isKey_any (s : ByteArray) (w : World) :
    Calls Try.prog 45 #[.string s] w fun e w' => e = .returned (.bool (keyB s)) ∧ w' = w := by
  have hK : Hid (keyB s = (!s.toList.isEmpty && decide (s.size ≤ 200))) := rfl
  cases hb : s.toList.isEmpty with
  | true =>
    have h : s.toList = [] := by simpa using hb
    go_enter Try.func45, Try.ntmps45
    go_wp2_with fail
    go_ret
    exact ⟨by rw [hK.out, hb]; rfl, rfl⟩
  | false =>
    have h : ¬ s.toList = [] := by simpa using hb
    have hW := fun w => isWord_any s w
    generalize decide (s.size ≤ 200) = d at hW hK
    go_enter Try.func45, Try.ntmps45
    go_wp2_with (go_at_call 46; refine (hW _).mono ?_; rintro e w' ⟨rfl, hw⟩; obtain rfl := hw.symm)
    go_ret
    exact ⟨by rw [hK.out, hb]; rfl, rfl⟩

/-- A valid step. -/
def okSt (e : St) : Bool :=
  if e.1 = 1 then keyB e.2.1 && keyB e.2.2.1 && !(e.2.1.toList == e.2.2.1.toList) && e.2.2.2.toList.isEmpty
  else if e.1 = 2 ∨ e.1 = 3 then keyB e.2.1 && e.2.2.1.toList.isEmpty && decide (e.2.2.2.size ≤ 200) else false
/-- A step as the code has it, behind its interface. -/
def stepV (e : St) : Value :=
  if e.1 = 1 then .iface 92 (.agg #[.string e.2.1, .string e.2.2.1])
  else if e.1 = 2 then .iface 93 (.agg #[.string e.2.1, .string e.2.2.2])
  else .iface 90 (.agg #[.string e.2.1, .string e.2.2.2])

theorem isKey_b (s : ByteArray) (w : World) : Calls Try.prog 45 #[.string s] w fun e w' => e = .returned (.bool (keyB s)) ∧ Below w.heap.size w w' :=
  (isKey_any s w).mono fun e w' h => ⟨h.1, by rw [h.2]; exact Below.refl _ _⟩
theorem four_cells {w w1 : World} {x y z u : Value} {T : TypeId} (h : Below (w.alloc (.cells #[x, y, z, u] T)).heap.size (w.alloc (.cells #[x, y, z, u] T)) w1) :
    w1.cell? ⟨w.heap.size, 0, none⟩ = some x ∧ w1.cell? ⟨w.heap.size, 1, none⟩ = some y ∧ w1.cell? ⟨w.heap.size, 2, none⟩ = some z ∧ w1.cell? ⟨w.heap.size, 3, none⟩ = some u :=
  ⟨cell_made h (k := 0) rfl, cell_made h (k := 1) rfl, cell_made h (k := 2) rfl, cell_made h (k := 3) rfl⟩

set_option maxHeartbeats 1000000 in
theorem lensStepOf_one (n t x : ByteArray) (w : World) :
    Calls Try.prog 44 #[.agg #[.int .i64 1, .string n, .string t, .string x]] w fun e w' => e = .returned (.tuple #[.iface 92 (.agg #[.string n, .string t]), .bool (okSt (1, n, t, x))]) ∧ Below w.heap.size w w' := by
  have hN := fun w => isKey_b n w
  have hT := fun w => isKey_b t w
  have HO : Hid (okSt (1, n, t, x) = (keyB n && keyB t && !(n.toList == t.toList) && x.toList.isEmpty)) := rfl
  have hne := kept_some ((w.alloc (.cells #[.int .i64 1, .string n, .string t, .string x] 43)).alloc (.cells #[.string n, .string x] 46))
  have HB : Hid (∀ w', Below ((w.alloc (.cells #[.int .i64 1, .string n, .string t, .string x] 43)).alloc (.cells #[.string n, .string x] 46)).heap.size ((w.alloc (.cells #[.int .i64 1, .string n, .string t, .string x] 43)).alloc (.cells #[.string n, .string x] 46)) w' → Below w.heap.size w w') := fun w' h => below_seq (below_then (below_alloc _ _) _) h
  have hc := fun p : KeptBy ((w.alloc (.cells #[.int .i64 1, .string n, .string t, .string x] 43)).alloc (.cells #[.string n, .string x] 46)) => four_cells (below_seq (below_alloc (w.alloc (.cells #[.int .i64 1, .string n, .string t, .string x] 43)) (.cells #[.string n, .string x] 46)) p.kept)
  have c1 := fun p => (hc p).2.1
  have c2 := fun p => (hc p).2.2.1
  have c3 := fun p => (hc p).2.2.2
  clear hc
  generalize keyB n = bn at *
  generalize keyB t = bt at *
  go_enter Try.func44, Try.ntmps44
  go_wp2_with fail
  generalize ((w.alloc (.cells #[.int .i64 1, .string n, .string t, .string x] 43)).alloc (.cells #[.string n, .string x] 46)) = W at *
  generalize hz : w.heap.size = z at *
  refine wp_region_kept (by kernel_rfl) (by kernel_rfl) ?_
  iterate 8 quiet_step (fail)
  quiet_step ((go_at_call 45; exact kept_of (hN _)))
  cases bn with
  | false =>
    quiet_step (fail)
    iterate 3 (refine quiet_skip ?_)
    iterate 2 quiet_step (fail)
    iterate 5 (refine quiet_skip ?_)
    iterate 2 quiet_step (fail)
    iterate 3 (refine quiet_skip ?_)
    iterate 3 quiet_step (fail)
    refine wpQuiet_nil ?_
    rintro _ ⟨p, rfl⟩
    have hB := HB.out _ p.kept
    go_wp2_with fail
    go_ret2
    exact ⟨by rw [HO.out]; simp, by rw [hz]; exact hB⟩
  | true =>
    iterate 3 quiet_step (fail)
    quiet_step ((go_at_call 45; exact kept_of (hT _)))
    cases bt with
    | false =>
      iterate 2 quiet_step (fail)
      iterate 5 (refine quiet_skip ?_)
      iterate 2 quiet_step (fail)
      iterate 3 (refine quiet_skip ?_)
      iterate 3 quiet_step (fail)
      refine wpQuiet_nil ?_
      rintro _ ⟨p, rfl⟩
      have hB := HB.out _ p.kept
      go_wp2_with fail
      go_ret2
      exact ⟨by rw [HO.out]; simp, by rw [hz]; exact hB⟩
    | true =>
      iterate 6 quiet_step (fail)
      cases hq : (n.toList == t.toList) with
      | true =>
        rw [hq] at HO
        quiet_step (fail)
        iterate 2 quiet_step (fail)
        iterate 3 (refine quiet_skip ?_)
        iterate 3 quiet_step (fail)
        refine wpQuiet_nil ?_
        rintro _ ⟨p, rfl⟩
        have hB := HB.out _ p.kept
        go_wp2_with fail
        go_ret2
        exact ⟨by rw [HO.out]; simp, by rw [hz]; exact hB⟩
      | false =>
        rw [hq] at HO
        quiet_step (fail)
        iterate 2 quiet_step (fail)
        iterate 3 quiet_step (fail)
        iterate 3 quiet_step (fail)
        refine wpQuiet_nil ?_
        rintro _ ⟨p, rfl⟩
        have hB := HB.out _ p.kept
        go_wp2_with fail
        go_ret2
        exact ⟨by rw [HO.out]; simp, by rw [hz]; exact hB⟩

set_option maxHeartbeats 1000000 in
theorem lensStepOf_two (n t x : ByteArray) (w : World) :
    Calls Try.prog 44 #[.agg #[.int .i64 2, .string n, .string t, .string x]] w fun e w' => e = .returned (.tuple #[.iface 93 (.agg #[.string n, .string x]), .bool (okSt (2, n, t, x))]) ∧ Below w.heap.size w w' := by
  have hN := fun w => isKey_any n w
  have hW := fun w => isWord_any x w
  have HO : Hid (okSt (2, n, t, x) = (keyB n && t.toList.isEmpty && decide (x.size ≤ 200))) := rfl
  generalize keyB n = b at *
  generalize decide (x.size ≤ 200) = d at *
  cases b with
  | false =>
    go_enter Try.func44, Try.ntmps44
    go_wp2_with (go_at_call 45; refine (hN _).mono ?_; rintro e w' ⟨rfl, hw⟩; obtain rfl := hw.symm)
    go_ret2
    exact ⟨by rw [HO.out]; simp, below_then (below_alloc _ _) _⟩
  | true =>
    cases hb : t.toList.isEmpty with
    | true =>
      have h : t.toList = [] := by simpa using hb
      rw [hb] at HO
      go_enter Try.func44, Try.ntmps44
      go_wp2_with (first | (go_at_call 45; refine (hN _).mono ?_; rintro e w' ⟨rfl, hw⟩; obtain rfl := hw.symm) | (go_at_call 46; refine (hW _).mono ?_; rintro e w' ⟨rfl, hw⟩; obtain rfl := hw.symm))
      go_ret2
      exact ⟨by rw [HO.out]; simp, below_then (below_alloc _ _) _⟩
    | false =>
      have h : ¬ t.toList = [] := by simpa using hb
      rw [hb] at HO
      go_enter Try.func44, Try.ntmps44
      go_wp2_with (first | (go_at_call 45; refine (hN _).mono ?_; rintro e w' ⟨rfl, hw⟩; obtain rfl := hw.symm) | (go_at_call 46; refine (hW _).mono ?_; rintro e w' ⟨rfl, hw⟩; obtain rfl := hw.symm))
      go_ret2
      exact ⟨by rw [HO.out]; simp, below_then (below_alloc _ _) _⟩

set_option maxHeartbeats 1000000 in
theorem lensStepOf_three (n t x : ByteArray) (w : World) :
    Calls Try.prog 44 #[.agg #[.int .i64 3, .string n, .string t, .string x]] w fun e w' => e = .returned (.tuple #[.iface 90 (.agg #[.string n, .string x]), .bool (okSt (3, n, t, x))]) ∧ Below w.heap.size w w' := by
  have hN := fun w => isKey_any n w
  have hW := fun w => isWord_any x w
  have HO : Hid (okSt (3, n, t, x) = (keyB n && t.toList.isEmpty && decide (x.size ≤ 200))) := rfl
  generalize keyB n = b at *
  generalize decide (x.size ≤ 200) = d at *
  cases b with
  | false =>
    go_enter Try.func44, Try.ntmps44
    go_wp2_with (go_at_call 45; refine (hN _).mono ?_; rintro e w' ⟨rfl, hw⟩; obtain rfl := hw.symm)
    go_ret2
    exact ⟨by rw [HO.out]; simp, below_then (below_alloc _ _) _⟩
  | true =>
    cases hb : t.toList.isEmpty with
    | true =>
      have h : t.toList = [] := by simpa using hb
      rw [hb] at HO
      go_enter Try.func44, Try.ntmps44
      go_wp2_with (first | (go_at_call 45; refine (hN _).mono ?_; rintro e w' ⟨rfl, hw⟩; obtain rfl := hw.symm) | (go_at_call 46; refine (hW _).mono ?_; rintro e w' ⟨rfl, hw⟩; obtain rfl := hw.symm))
      go_ret2
      exact ⟨by rw [HO.out]; simp, below_then (below_alloc _ _) _⟩
    | false =>
      have h : ¬ t.toList = [] := by simpa using hb
      rw [hb] at HO
      go_enter Try.func44, Try.ntmps44
      go_wp2_with (first | (go_at_call 45; refine (hN _).mono ?_; rintro e w' ⟨rfl, hw⟩; obtain rfl := hw.symm) | (go_at_call 46; refine (hW _).mono ?_; rintro e w' ⟨rfl, hw⟩; obtain rfl := hw.symm))
      go_ret2
      exact ⟨by rw [HO.out]; simp, below_then (below_alloc _ _) _⟩

set_option maxHeartbeats 1000000 in
theorem lensStepOf_odd (k : Int) (n t x : ByteArray) (h1 : ¬ k = 1) (h2 : ¬ k = 2) (h3 : ¬ k = 3) (w : World) :
    Calls Try.prog 44 #[.agg #[.int .i64 k, .string n, .string t, .string x]] w fun e w' => e = .returned (.tuple #[.nilIface, .bool (okSt (k, n, t, x))]) ∧ Below w.heap.size w w' := by
  have HO : Hid (okSt (k, n, t, x) = false) := by simp [Hid, okSt, h1, h2, h3]
  go_enter Try.func44, Try.ntmps44
  go_wp2_with fail
  go_ret2
  exact ⟨by rw [HO.out]; rfl, below_then (below_alloc _ _) _⟩

theorem lensStepOf_any (e : St) (w : World) :
    Calls Try.prog 44 #[.agg #[.int .i64 e.1, .string e.2.1, .string e.2.2.1, .string e.2.2.2]] w fun r w' => ∃ v, r = .returned (.tuple #[v, .bool (okSt e)]) ∧ (okSt e = true → v = stepV e) ∧ Below w.heap.size w w' := by
  obtain ⟨k, n, t, x⟩ := e
  by_cases h1 : k = 1
  · subst h1
    exact (lensStepOf_one n t x w).mono fun r w' h => ⟨_, h.1, fun _ => rfl, h.2⟩
  by_cases h2 : k = 2
  · subst h2
    exact (lensStepOf_two n t x w).mono fun r w' h => ⟨_, h.1, fun _ => rfl, h.2⟩
  by_cases h3 : k = 3
  · subst h3
    exact (lensStepOf_three n t x w).mono fun r w' h => ⟨_, h.1, fun _ => rfl, h.2⟩
  · exact (lensStepOf_odd k n t x h1 h2 h3 w).mono fun r w' h => ⟨_, h.1, fun hk => absurd hk (by simp [okSt, h1, h2, h3]), h.2⟩

theorem stepV_one (e : St) : (stepV e).oneCell' = true := by
  unfold stepV
  split
  · rfl
  · split <;> rfl

theorem stepV_iface (e : St) : ∃ T d, stepV e = .iface T d := by
  unfold stepV
  split
  · exact ⟨_, _, rfl⟩
  · split <;> exact ⟨_, _, rfl⟩
theorem cell_one_newM (w : World) (x : Value) (t : TypeId) : ∀ j u, [x][j]? = some u → (w.alloc (.cells #[x] t)).cell? ((⟨w.heap.size, 0, none⟩ : Addr).add j) = some u := by
  intro j u hj
  cases j with
  | zero =>
    rw [Addr.add_lit]
    simp at hj
    subst hj
    exact cell_made (Below.refl _ _) (k := 0) rfl
  | succ j => simp at hj

/-- A valid lens. -/
def okLens (ls : List St) : Bool := decide (ls.length ≤ 32) && ls.all okSt
theorem okLens_take {ls : List St} {k : Nat} (h : k < ls.length) (ha : (ls.take k).all okSt = true) : (ls.take (k + 1)).all okSt = okSt (stAt ls k) := by
  rw [st_take_succ h, List.all_append, ha]
  simp
theorem okLens_bad {ls : List St} {k : Nat} (h : k < ls.length) (hb : okSt (stAt ls k) = false) : okLens ls = false := by
  unfold okLens
  have : ls.all okSt = false := by
    rw [List.all_eq_false]
    exact ⟨_, stAt_mem h, by rw [hb]; exact Bool.false_ne_true⟩
  rw [this, Bool.and_false]

theorem infoLensStep : (Try.prog.info? 75).map (fun i => (i.zero, i.size, i.bytes)) = some (some .nilIface, 1, 16) := by kernel_rfl

set_option maxHeartbeats 2000000 in
set_option maxRecDepth 100000 in
theorem lensStepsOf_any (C : Nat) (w : World) (v : Value) (ls : List St) (hl : ls.length ≤ 1048576) (hC : C ≤ w.heap.size) (hr : RdSt C w v ls) :
    Calls Try.prog 33 #[v] w fun r w' => ∃ u, r = .returned (.tuple #[u, .bool (okLens ls)]) ∧ (okLens ls = true → Own 75 w' w.heap.size u (ls.map stepV)) ∧ Below w.heap.size w w' := by
  obtain ⟨i0, hi, hz0, hz1, hz2⟩ := info_parts infoLensStep
  obtain ⟨ao, cap, rfl, hr⟩ := hr
  by_cases h32 : 32 < ls.length
  · have HO : Hid (okLens ls = false) := by unfold Hid okLens; rw [decide_eq_false (by omega), Bool.false_and]
    have j : (32 : Int) < (ls.length : Int) := by omega
    go_enter Try.func33, Try.ntmps33
    go_wp2_with fail
    go_ret2
    exact ⟨_, by rw [HO.out]; rfl, fun h => absurd h (by rw [HO.out]; exact Bool.false_ne_true), Below.refl _ _⟩
  · have j : ¬ (32 : Int) < (ls.length : Int) := by omega
    have HL : Hid (okLens ls = ls.all okSt) := by unfold Hid okLens; rw [decide_eq_true (by omega), Bool.true_and]
    have HBAD : Hid (∀ k, k < ls.length → okSt (stAt ls k) = false → okLens ls = false) := fun k h hb => okLens_bad h hb
    go_enter Try.func33, Try.ntmps33
    go_wp2_with fail
    go_loopw [4, 14] (fun ts ti wr => ∃ k : Nat, k ≤ ls.length ∧ ti = .int .i64 (k : Int) ∧ Hid ((ls.take k).all okSt = true) ∧ Hid (Own 75 wr w.heap.size ts ((ls.take k).map stepV)) ∧ Below w.heap.size w wr) (fun _ ti _ => ls.length - (intOf ti).toNat)
    case atStart => exact ⟨0, Nat.zero_le _, rfl, by simp [Hid], ⟨by simp, .inl ⟨rfl, by simp⟩⟩, Below.refl _ _⟩
    case round =>
      obtain ⟨k, hk, rfl, HA, HW, hB⟩ := hrel
      have hsz := hB.size
      by_cases hlt : k < ls.length
      · obtain ⟨g, off, rfl, hg, hc⟩ := hr (by omega)
        have d0 : wr.cell? ⟨g, off + k * 4, none⟩ = _ := (hB.cell (p := ⟨g, off + k * 4, none⟩) (by show g < _; omega)).trans (hc k hlt).1
        have d1 : wr.cell? ⟨g, off + k * 4 + 1, none⟩ = _ := (hB.cell (p := ⟨g, off + (k * 4 + 1), none⟩) (by show g < _; omega)).trans (hc k hlt).2.1
        have d2 : wr.cell? ⟨g, off + k * 4 + 2, none⟩ = _ := (hB.cell (p := ⟨g, off + (k * 4 + 2), none⟩) (by show g < _; omega)).trans (hc k hlt).2.2.1
        have d3 : wr.cell? ⟨g, off + k * 4 + 3, none⟩ = _ := (hB.cell (p := ⟨g, off + (k * 4 + 3), none⟩) (by show g < _; omega)).trans (hc k hlt).2.2.2
        have j0 : (0 : Int) ≤ (k : Int) := by omega
        have j1 : (k : Int) < (ls.length : Int) := by omega
        have j2 : (k : Int) + 1 < 9223372036854775808 := by omega
        have HT : Hid (ls.take (k + 1) = ls.take k ++ [stAt ls k]) := st_take_succ hlt
        have HBk : Hid (okSt (stAt ls k) = false → okLens ls = false) := HBAD.out k hlt
        have hS := fun w => lensStepOf_any (stAt ls k) w
        have hlen : ((ls.take k).map stepV).length = k := by simp; omega
        generalize stAt ls k = e at *
        obtain ⟨x, y, z, u⟩ := e
        replace d0 : wr.cell? ⟨g, off + k * 4, none⟩ = some (.int .i64 x) := d0
        replace d1 : wr.cell? ⟨g, off + k * 4 + 1, none⟩ = some (.string y) := d1
        replace d2 : wr.cell? ⟨g, off + k * 4 + 2, none⟩ = some (.string z) := d2
        replace d3 : wr.cell? ⟨g, off + k * 4 + 3, none⟩ = some (.string u) := d3
        clear hc hr
        go_wp2_with fail
        refine (hS _).mono ?_
        rintro r w1 ⟨v1, rfl, hv1, hb1⟩
        have hB1 : Below w.heap.size w w1 := below_seq (below_then hB _) hb1
        have HW1 : Hid (Own 75 w1 w.heap.size u4 ((ls.take k).map stepV)) := (HW.out.below (below_seq (below_alloc _ _) hb1) (Nat.le_refl _))
        clear d0 d1 d2 d3 hb1 hS HW hB
        cases hok : okSt (x, y, z, u) with
        | false =>
          have HF := HBk.out hok
          clear hv1
          go_wp2_with fail
          go_ret2
          exact ⟨_, by rw [HF]; rfl, fun h => absurd h (by rw [HF]; exact Bool.false_ne_true), hB1⟩
        | true =>
          obtain rfl := hv1 hok
          have hone := stepV_one (x, y, z, u)
          have HV : Hid (stepV (x, y, z, u) = stepV (x, y, z, u)) := rfl
          have HH : Hid (((ls.take k).map stepV) ++ [stepV (x, y, z, u)] = (ls.take (k + 1)).map stepV) := by unfold Hid; rw [HT.out, List.map_append]; rfl
          have HA2 : Hid ((ls.take (k + 1)).all okSt = true) := by unfold Hid; rw [HT.out, List.all_append, HA.out]; simp [hok]
          obtain ⟨sT, sd, hsv⟩ := stepV_iface (x, y, z, u)
          rw [hsv] at hone HH ⊢
          clear hsv
          generalize (ls.take k).map stepV = SV at *
          have hsz1 := hB1.size
          clear hok HBk HT HA HV hv1
          have ho := HW1.out
          go_wp2_with (at_builtin; refine wpList_append_own _ rfl _ _ 59 rfl w.heap.size 75 i0 .nilIface 1 16 Try.underlying59 hi hz0 hz1 hz2 rfl (by decide) _ _ _ rfl (World.ownsRow.alloc ho _) ⟨w1.heap.size, 0, none⟩ 1 1 [.iface sT sd] rfl rfl (cell_one_newM _ _ _) (by simpa using hone) (by rw [hlen]; unfold maxLen; omega) (by rw [hlen]; omega) (by first | omega | (simp; omega)) ?_)
          intro v6 w6 ho6 hg6 _
          have hB6 : Below w.heap.size w w6 := (below_then hB1 _).grown hg6 (by simp; omega) (fun q hq => (World.ownsRow.lt ho q hq).1)
          have HO6 : Hid (Own 75 w6 w.heap.size v6 ((ls.take (k + 1)).map stepV)) := by
            rw [← HH.out]
            unfold Hid Own
            rw [List.length_append, hlen]
            exact ho6
          clear ho ho6 hg6 HW1 HH
          go_wp2_with fail
          go_roundw
          case rel => exact ⟨k + 1, by omega, by go_num, HA2, HO6, hB6⟩
          case measure => simp [intOf]; omega
      · obtain rfl : k = ls.length := by omega
        have HT : Hid (okLens ls = true) := by unfold Hid; rw [HL.out]; have := HA.out; rwa [List.take_length] at this
        have ho := HW.out
        rw [List.take_length] at ho
        have hn : ¬ (ls.length : Int) < (ls.length : Int) := by omega
        go_wp2_with fail
        go_ret2
        exact ⟨_, by rw [HT.out]; rfl, fun _ => ho, hB⟩
end Go.Proofs.Ytagnpahkhaighaa
