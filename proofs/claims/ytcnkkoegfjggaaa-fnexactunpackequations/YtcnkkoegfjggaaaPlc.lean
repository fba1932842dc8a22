/- Contracts: the places of nodes, as the program goes through them, each told to be one of the nodes. -/
import Derived.Test.YtcnkkoegfjggaaaAhead
namespace Go.Proofs.Ytcnkkoegfjggaaa
open Go.RowKit Go.Shelf

attribute [local go_sem] Oper.semAt_some

/-- A place of some nodes, and what is awaited behind it. -/
abbrev Plc (q : Nat) := { x : Nat × Int // x.1 < q }

set_option maxRecDepth 100000 in
set_option maxHeartbeats 2000000 in
theorem plc1_in (k0 : Nat) (hn : 1 ≤ k0) (l Bs Bt X B b off n c b' len cap : Nat) (N : Nat → ByteArray) (A T : Nat → Int) (hg : Nods n A len T)
    (hb : b < B ∧ b ≠ X) (hb' : b' < B ∧ b' ≠ X) (hBt : Bt < B ∧ Bt ≠ X) (J Jx : List (Plc len) → World → Prop)
    (hJ : ∀ s w w', J s w → Below w.heap.size w w' → J s w')
    (hY : ∀ pre (x : Plc len) W, J pre W → pre.length < len → YieldAt Fence.wide (k0 - 1) Try.prog l #[.int .i64 (x.1.1 : Int), .int .i64 x.1.2] W fun e W' =>
      (e = .returned (.bool true) ∧ J (pre ++ [x]) W' ∧ But X B W W') ∨ (e = .returned (.bool false) ∧ Jx (pre ++ [x]) W'))
    (W : World) (hBW : B ≤ W.heap.size) (hBs : W.cell? ⟨Bs, 0, none⟩ = some (.slice (some ⟨b', 0, none⟩) len cap)) (hct : W.cell? ⟨Bt, 0, none⟩ = some (.slice (some ⟨b, off, none⟩) n c)) (hs : Syms W b off n N A)
    (hc : ∀ j, j < len → W.cell? ⟨b', 0 + j, none⟩ = some (.int .i64 (T j))) (h0 : J [] W) :
    CallsIn Fence.wide k0 Try.prog 88 #[.func (.yield l) #[] #[], .pointer (some ⟨Bs, 0, none⟩), .pointer (some ⟨Bt, 0, none⟩)] W fun e W' => (∃ v, e = .returned v) ∧
      ((∃ xs, (∃ k, k ≤ len ∧ (∀ i, i < k → 0 < awt (aOf A T) 0 i) ∧ (awt (aOf A T) 0 k = 0 ∨ k = len) ∧ xs.map (·.1) = upto (yld (aOf A T) 0) k) ∧ J xs W') ∨ (∃ pre, (∃ k, k < len ∧ (∀ i, i ≤ k → 0 < awt (aOf A T) 0 i) ∧ pre.map (·.1) = upto (yld (aOf A T) 0) (k + 1)) ∧ Jx pre W')) := by
  refine callsIn_of_wp Try.func88 rfl trivial ?_ rfl
  simp only [Try.ntmps88, List.size_toArray, List.length_cons, List.length_nil, Nat.reduceAdd, Nat.reduceSub, Array.replicate_succ, Array.replicate_zero, List.push_toArray, List.append_toArray, List.nil_append, List.cons_append]
  have hl24 := hg.most
  have HG := hidden hg
  have HS := hidden hs
  have HC := hidden hc
  have HY := hidden hY
  have HJ := hidden hJ
  have HT := hidden hct
  have H0 := hidden h0
  clear hg hs hc hY hJ hct h0
  gi_wp2
  gi_loopw [4, 9] (fun z i wr => ∃ (k : Nat) (v : Int) (pre : List (Plc len)), k ≤ len ∧ i = .int .i64 k ∧ z = .int .i64 v ∧ 0 < v ∧ v ≤ 1 + k ∧ pre.length = k ∧ Hid (v = awt (aOf A T) 0 k) ∧ Hid (∀ i, i < k → 0 < awt (aOf A T) 0 i) ∧ Hid (pre.map (·.1) = upto (yld (aOf A T) 0) k) ∧ Hid (J pre wr) ∧ Hid (But X B W wr))
    (fun _ i _ => len - (intOf i).toNat)
  case atStart => exact ⟨0, 1, [], Nat.zero_le _, rfl, rfl, by omega, by omega, rfl, hidden rfl, hidden (fun i hi => by omega), hidden rfl, H0, hidden (But.refl _ _ _)⟩
  case round =>
    obtain ⟨k, v, pre, hk, rfl, rfl, hv0, hv1, hpl, HV, HA, HM, HI, HB⟩ := hrel
    by_cases hlt : k < len
    · have c1 : wr.cell? ⟨b', k, none⟩ = some (.int .i64 (T k)) := by have := (HB.out.cell (o := 0 + k) hb'.1 hb'.2).trans (HC.out k hlt); rwa [Nat.zero_add] at this
      have c2 : wr.cell? ⟨Bt, 0, none⟩ = some (.slice (some ⟨b, off, none⟩) n c) := (HB.out.cell hBt.1 hBt.2).trans HT.out
      have har := HG.out.aOf_le (p := k) (by omega)
      have HSw := hidden (HS.out.but HB.out hb.1 hb.2)
      obtain ⟨ar, hE⟩ : ∃ ar : Nat, ar = aOf A T k := ⟨_, rfl⟩
      have AC := hidden (argumentCount_any b off n c len N A T k wr HSw.out HG.out (by omega))
      rw [← hE] at AC har
      have HE := hidden hE
      clear hE
      generalize T k = x at c1 AC
      gi_wp2_with (refine ⟨trivial, ?_⟩; gi_at_call 89; refine (callsIn_wide.2 AC.out).mono ?_; rintro e w1 ⟨rfl, hb1⟩; clear AC; have HJ1 := hidden (HJ.out _ _ _ HI.out hb1); have HB1 := hidden (HB.out.trans (But.of hb1 (by have := HB.out.size; omega))); clear hb1 HI c1 c2; obtain ⟨fn, tmps, assign, body, hy, hR⟩ := HY.out pre ⟨(k, v + ((ar : Int) - 1)), hlt⟩ w1 HJ1.out (by omega); dsimp only at hy)
      have HN := hidden (show v + ((ar : Int) - 1) = awt (aOf A T) 0 (k + 1) by simp only [awt, Nat.zero_add]; rw [← HV.out, ← HE.out]; omega)
      have HA1 := hidden (show ∀ i, i < k + 1 → 0 < awt (aOf A T) 0 i from fun i hi => by
        by_cases e : i = k
        · rw [e, ← HV.out]; exact hv0
        · exact HA.out i (by omega))
      have HX := hidden (show (pre ++ [(⟨(k, v + ((ar : Int) - 1)), hlt⟩ : Plc len)]).map (·.1) = upto (yld (aOf A T) 0) (k + 1) by rw [List.map_append, HM.out, upto_succ, HN.out]; rfl)
      clear HJ1 HSw HV HA HE HB HM
      refine hR.mono ?_
      rintro e W3 (⟨rfl, hJ3, hk3⟩ | ⟨rfl, hJx3⟩)
      · have HJ3 := hidden hJ3
        have HB3 := hidden (HB1.out.trans hk3)
        clear hJ3 hk3 hR hy HB1
        by_cases hz : v + ((ar : Int) - 1) = 0
        · have hz' : (v + ((ar : Int) - 1) == 0) = true := by simpa using hz
          have HZ := hidden hz
          clear hz
          gi_wp2
          refine bodyPost_ret (results_none rfl _ _ _) rfl ?_
          exact ⟨⟨_, rfl⟩, .inl ⟨_, ⟨k + 1, by omega, HA1.out, .inl (by rw [← HN.out]; exact HZ.out), HX.out⟩, HJ3.out⟩⟩
        · have hz' : (v + ((ar : Int) - 1) == 0) = false := by simpa using hz
          have hz2 : 0 < v + ((ar : Int) - 1) := by omega
          clear hz
          gi_wp2
          go_roundw
          case rel => exact ⟨k + 1, v + ((ar : Int) - 1), _, by omega, by go_num, rfl, hz2, by omega, by simp [hpl], HN, HA1, HX, HJ3, HB3⟩
          case measure => simp [intOf]; omega
      · have HJ3 := hidden hJx3
        clear hJx3 hR hy HB1
        gi_wp2
        refine bodyPost_ret (results_none rfl _ _ _) rfl ?_
        exact ⟨⟨_, rfl⟩, .inr ⟨_, ⟨k, hlt, fun i hi => HA1.out i (by omega), HX.out⟩, HJ3.out⟩⟩
    · obtain rfl : k = len := by omega
      gi_wp2
      go_end0
      exact ⟨⟨_, rfl⟩, .inl ⟨_, ⟨k, Nat.le_refl _, HA.out, .inr rfl, HM.out⟩, HI.out⟩⟩

set_option maxRecDepth 100000 in
set_option maxHeartbeats 800000 in
theorem plc0_in (k0 : Nat) (l Bs Bt : Nat) (J : List (Plc 0) → World → Prop) (W : World) (hBs : W.cell? ⟨Bs, 0, none⟩ = some (.slice none 0 0)) (h0 : J [] W) :
    CallsIn Fence.wide k0 Try.prog 88 #[.func (.yield l) #[] #[], .pointer (some ⟨Bs, 0, none⟩), .pointer (some ⟨Bt, 0, none⟩)] W fun e W' => (∃ v, e = .returned v) ∧ J [] W' := by
  refine callsIn_of_wp Try.func88 rfl trivial ?_ rfl
  simp only [Try.ntmps88, List.size_toArray, List.length_cons, List.length_nil, Nat.reduceAdd, Nat.reduceSub, Array.replicate_succ, Array.replicate_zero, List.push_toArray, List.append_toArray, List.nil_append, List.cons_append]
  have H0 := hidden h0
  clear h0
  gi_wp2
  gi_loopw [9] (fun i wr => i = .int .i64 (0 : Nat) ∧ Hid (J [] wr)) (fun _ _ => 0)
  case atStart => exact ⟨rfl, H0⟩
  case round =>
    obtain ⟨rfl, HI⟩ := hrel
    gi_wp2
    go_end0
    exact ⟨⟨_, rfl⟩, HI.out⟩

/-- The contract of placesOf's answer, over nodes that grew. -/
theorem plc_stops (k0 : Nat) (hn : 1 ≤ k0) (Bs Bt X B b off n c q B0 : Nat) (v : Value) (N : Nat → ByteArray) (A T : Nat → Int) (hg : 0 < q → Nods n A q T)
    (hb : b < B ∧ b ≠ X) (hv : ∀ g, v.ownBlock = some g → g < B ∧ g ≠ X) (hBt : Bt < B ∧ Bt ≠ X) (w : World) (hBs' : Bs < w.heap.size) (hBW : B ≤ w.heap.size) (hBs : w.cell? ⟨Bs, 0, none⟩ = some v) (hct : w.cell? ⟨Bt, 0, none⟩ = some (.slice (some ⟨b, off, none⟩) n c)) (hs : Syms w b off n N A)
    (hgr : Grow B0 w v q T) :
    SeqStopsK Fence.wide k0 Try.prog 88 #[.pointer (some ⟨Bs, 0, none⟩), .pointer (some ⟨Bt, 0, none⟩)] (fun x : Plc q => #[Value.int .i64 (x.1.1 : Int), Value.int .i64 x.1.2]) (But X B)
      (fun xs => ∃ k, k ≤ q ∧ (∀ i, i < k → 0 < awt (aOf A T) 0 i) ∧ (awt (aOf A T) 0 k = 0 ∨ k = q) ∧ xs.map (·.1) = upto (yld (aOf A T) 0) k)
      (fun pre => ∃ k, k < q ∧ (∀ i, i ≤ k → 0 < awt (aOf A T) 0 i) ∧ pre.map (·.1) = upto (yld (aOf A T) 0) (k + 1)) q w := fun l J Jx W hW hJ _ hY h0 => by
  rcases hgr with ⟨rfl, rfl⟩ | ⟨h1, g, d, rfl, hg2, ho⟩
  · refine (plc0_in k0 l Bs Bt J W ((hW.cell (p := ⟨Bs, 0, none⟩) hBs').trans hBs) h0).mono ?_
    rintro e w' ⟨hv, hj⟩
    exact ⟨hv, .inl ⟨[], ⟨0, Nat.le_refl _, fun i hi => by omega, .inr rfl, rfl⟩, hj⟩⟩
  · have hgb := hv g rfl
    have hi := ho.ints
    exact plc1_in k0 hn l Bs Bt X B b off n c g q d N A T (hg h1) hb hgb hBt J Jx (fun s w w' h hb => AbidesFrom.below hJ h hb) hY W (Nat.le_trans hBW hW.size)
      ((hW.cell (p := ⟨Bs, 0, none⟩) hBs').trans hBs) ((hW.cell (p := ⟨Bt, 0, none⟩) (by show Bt < w.heap.size; omega)).trans hct) (hs.keep hW)
      (fun j hj => (hW.cell (p := ⟨g, 0 + j, none⟩) (by show g < w.heap.size; omega)).trans (hi.cell j hj)) h0

end Go.Proofs.Ytcnkkoegfjggaaa
