/- Contracts: the places of a term's arguments, as the program goes through them. -/
import Derived.Test.YtenlogljpgdbpaaDepthS
import Derived.Sort.CutIn
namespace Go.Proofs.Ytenlogljpgdbpaa
open Go.RowKit Go.Shelf

attribute [local go_sem] Oper.semAt_some

/-- A place behind p. -/
abbrev Arg (p m : Nat) := { x : Nat // p < x ∧ x < m }

/-- Where the i-th argument of the term at p begins. -/
def argP (a : Nat → Nat) (m p i : Nat) : Nat := (skip a m (p + 1) i).getD 0

theorem argP_some {a : Nat → Nat} {m p i r : Nat} (h : skip a m (p + 1) i = some r) : argP a m p i = r := by simp [argP, h]

set_option maxRecDepth 20000 in
set_option maxHeartbeats 400000 in
theorem argumentsThere_any (p p' : Option Addr) (n c m c' : Nat) (x : Int) (w : World) :
    Calls Try.prog 104 #[.agg #[.slice p n c], .slice p' m c', .int .i64 x] w fun e w' => e = .returned (.func (.func 108) #[] #[.pointer (some ⟨w.heap.size + 1 + 1, 0, none⟩), .pointer (some ⟨w.heap.size, 0, none⟩), .pointer (some ⟨w.heap.size + 1, 0, none⟩)]) ∧ w' = ((w.alloc (.cells #[.slice p n c] 35)).alloc (.cells #[.slice p' m c'] 25)).alloc (.cells #[.int .i64 x] 2) := by
  have hmf : ∀ (fn : Fn) (first cap : Array Value) (w : World), (Instr.makeFunc fn first cap).run Try.prog w = .ok (.func fn first cap) w := fun _ _ _ _ => rfl
  go_enter Try.func104, Try.ntmps104
  go_wp2
  go_ret
  exact ⟨rfl, rfl⟩

set_option maxRecDepth 100000 in
set_option maxHeartbeats 8000000 in
theorem args1_in (k0 : Nat) (hn : 1 ≤ k0) (l Ba Bs Bt X B b off n c b' off' m c' p ar : Nat) (N : Nat → ByteArray) (A T : Nat → Int) (hg : Trm n A m T) (hp : p < m) (har : ar = aOf A T p) (hc' : m ≤ c')
    (hb : b < B ∧ b ≠ X) (hb' : b' < B ∧ b' ≠ X) (hBs : Bs < B ∧ Bs ≠ X) (hBt : Bt < B ∧ Bt ≠ X) (J Jx : List (Arg p m) → World → Prop)
    (hJ : ∀ s w w', J s w → Below w.heap.size w w' → J s w')
    (hY : ∀ pre (x : Arg p m) W, J pre W → pre.length < ar → YieldAt Fence.wide (k0 - 1) Try.prog l #[.int .i64 (x.1 : Int)] W fun e W' =>
      (e = .returned (.bool true) ∧ J (pre ++ [x]) W' ∧ But X B W W') ∨ (e = .returned (.bool false) ∧ Jx (pre ++ [x]) W'))
    (W : World) (hBW : B ≤ W.heap.size) (hca : W.cell? ⟨Ba, 0, none⟩ = some (.int .i64 p)) (hcs : W.cell? ⟨Bs, 0, none⟩ = some (.slice (some ⟨b, off, none⟩) n c)) (hct : W.cell? ⟨Bt, 0, none⟩ = some (.slice (some ⟨b', off', none⟩) m c')) (hs : Syms W b off n N A) (ht : Ints W b' off' m T) (h0 : J [] W) :
    CallsIn Fence.wide k0 Try.prog 108 #[.func (.yield l) #[] #[], .pointer (some ⟨Ba, 0, none⟩), .pointer (some ⟨Bs, 0, none⟩), .pointer (some ⟨Bt, 0, none⟩)] W fun e W' => (∃ v, e = .returned v) ∧
      ((∃ xs, xs.map (·.1) = upto (argP (aOf A T) m p) ar ∧ J xs W') ∨ (∃ pre, True ∧ Jx pre W')) := by
  refine callsIn_of_wp Try.func108 rfl trivial ?_ rfl
  simp only [Try.ntmps108, List.size_toArray, List.length_cons, List.length_nil, Nat.reduceAdd, Nat.reduceSub, Array.replicate_succ, Array.replicate_zero, List.push_toArray, List.append_toArray, List.nil_append, List.cons_append]
  have hm24 := hg.nods.most
  have hmx : Try.prog.follows .mixedOrders = true := by kernel_rfl
  have har2 : ar ≤ 2 := by rw [har]; exact hg.nods.aOf_le hp
  obtain ⟨en, hen, _, _⟩ := skip_inner hg.whole hp
  have HE := hidden (show skip (aOf A T) m (p + 1) ar = some en by rw [har, ← skip_one _ hp]; exact hen)
  have HG := hidden hg
  have HS := hidden hs
  have HT := hidden ht
  have HY := hidden hY
  have HJ := hidden hJ
  have H0 := hidden h0
  have HCS := hidden hcs
  have HCT := hidden hct
  have HBW := hidden hBW
  have c1 := ht.cell p hp
  have AC := hidden (argumentCount_any b off n c m N A T p W.drew (hs.keep (Below.refl _ _).drew) hg.nods hp)
  rw [← har] at AC
  clear hg hs ht hY hJ h0 har hen hBW
  generalize T p = x at c1 AC
  gi_wp2
  gi_cut [13, 14] from 27 (fun t z wc => t = .int .i64 ar ∧ z = .int .i64 0 ∧ Hid (Below W.heap.size W wc))
  case first =>
    first | gi_region_with_o (refine ⟨trivial, ?_⟩; gi_at_call 103; refine (callsIn_wide.2 AC.out).mono ?_; rintro e w1 ⟨rfl, hb1⟩) | fail
    all_goals gi_wp2
    all_goals gi_meet
    all_goals exact ⟨rfl, rfl, hidden ((Below.refl _ _).drew.trans hb1)⟩
  case rest =>
    rename World => w1
    obtain ⟨rfl, rfl, HB1⟩ := hcut
    clear AC c1
    have J1 := hidden (HJ.out _ _ _ H0.out HB1.out)
    clear H0
    gi_wp2
    gi_loopw [5, 14] (fun q i wr => ∃ (k r : Nat) (pre : List (Arg p m)), k ≤ ar ∧ r ≤ m ∧ p < r ∧ q = .int .i64 r ∧ i = .int .i64 k ∧ pre.length = k ∧ Hid (skip (aOf A T) m (p + 1) k = some r) ∧ Hid (pre.map (·.1) = upto (argP (aOf A T) m p) k) ∧ Hid (J pre wr) ∧ Hid (But X B W wr))
      (fun _ i _ => ar - (intOf i).toNat)
    case atStart => exact ⟨0, p + 1, [], Nat.zero_le _, by omega, by omega, by go_num, rfl, rfl, hidden (skip_zero _ _ _), hidden rfl, J1, hidden (But.of HB1.out HBW.out)⟩
    case round =>
      obtain ⟨k, r, pre, hk, hr, hpr, rfl, rfl, hpl, HK, HM, HI, HB⟩ := hrel
      by_cases hlt : k < ar
      · obtain ⟨r', r2, e1, e2, e3⟩ := skip_arg HE.out hlt
        obtain rfl : r = r' := by rw [HK.out] at e1; exact Option.some.inj e1
        have hr2 := (skip_le e2).2 (by omega)
        have hrm : r < m := by omega
        have HMN := hidden (manyN_some e2)
        have HK2 := hidden e3
        have HP := hidden (argP_some HK.out)
        obtain ⟨fn, tmps, assign, body, hy, hR⟩ := HY.out pre ⟨r, hpr, hrm⟩ wr HI.out (by omega)
        dsimp only at hy
        clear e1 e2 e3 HK HI
        gi_wp2
        refine hR.mono ?_
        rintro e W3 (⟨rfl, hJ3, hk3⟩ | ⟨rfl, hJx3⟩)
        · have HJ3 := hidden hJ3
          have HB3 := hidden (HB.out.trans hk3)
          have c2 : W3.cell? ⟨Bs, 0, none⟩ = some (.slice (some ⟨b, off, none⟩) n c) := (HB3.out.cell hBs.1 hBs.2).trans HCS.out
          have c3 : W3.cell? ⟨Bt, 0, none⟩ = some (.slice (some ⟨b', off', none⟩) m c') := (HB3.out.cell hBt.1 hBt.2).trans HCT.out
          have SC := hidden (sizeThere_any b off n c b' off' m c' r N A T W3 (HS.out.but HB3.out hb.1 hb.2) (HT.out.but HB3.out hb'.1 hb'.2) HG.out.nods HG.out.sig.least hrm hc')
          rw [HMN.out] at SC
          clear hJ3 hk3 hR hy HB
          gi_wp2_with (refine ⟨trivial, ?_⟩; gi_at_call 64; refine (callsIn_wide.2 SC.out).mono ?_; rintro e w4 ⟨rfl, hb4⟩; clear SC; have HJ4 := hidden (HJ.out _ _ _ HJ3.out hb4); have HB4 := hidden (HB3.out.trans (But.of hb4 (by have := HB3.out.size; have := HBW.out; omega))); clear hb4 c2 c3 HJ3 HB3)
          go_roundw
          case rel => exact ⟨k + 1, r2, pre ++ [⟨r, hpr, hrm⟩], by omega, by omega, by omega, by congr 1; omega, by go_num, by simp [hpl], HK2, hidden (by rw [List.map_append, HM.out, upto_succ, HP.out]; rfl), HJ4, HB4⟩
          case measure => simp [intOf]; omega
        · have HJ3 := hidden hJx3
          clear hJx3 hR hy
          gi_wp2
          refine bodyPost_ret (results_none rfl _ _ _) rfl ?_
          exact ⟨⟨_, rfl⟩, .inr ⟨_, trivial, HJ3.out⟩⟩
      · obtain rfl : k = ar := by omega
        gi_wp2
        go_end0
        exact ⟨⟨_, rfl⟩, .inl ⟨_, HM.out, HI.out⟩⟩

/-- The contract of argumentsThere's answer. -/
theorem args_stops (k0 : Nat) (hn : 1 ≤ k0) (Ba Bs Bt X B b off n c b' off' m c' p ar : Nat) (N : Nat → ByteArray) (A T : Nat → Int) (hg : Trm n A m T) (hp : p < m) (har : ar = aOf A T p) (hc' : m ≤ c')
    (hb : b < B ∧ b ≠ X) (hb' : b' < B ∧ b' ≠ X) (hBs : Bs < B ∧ Bs ≠ X) (hBt : Bt < B ∧ Bt ≠ X) (w : World) (hBa : Ba < w.heap.size) (hBW : B ≤ w.heap.size) (hca : w.cell? ⟨Ba, 0, none⟩ = some (.int .i64 p)) (hcs : w.cell? ⟨Bs, 0, none⟩ = some (.slice (some ⟨b, off, none⟩) n c)) (hct : w.cell? ⟨Bt, 0, none⟩ = some (.slice (some ⟨b', off', none⟩) m c')) (hs : Syms w b off n N A) (ht : Ints w b' off' m T) :
    SeqStopsK Fence.wide k0 Try.prog 108 #[.pointer (some ⟨Ba, 0, none⟩), .pointer (some ⟨Bs, 0, none⟩), .pointer (some ⟨Bt, 0, none⟩)] (fun x : Arg p m => #[Value.int .i64 (x.1 : Int)]) (But X B)
      (fun xs => xs.map (·.1) = upto (argP (aOf A T) m p) ar) (fun _ => True) ar w := fun l J Jx W hW hJ _ hY h0 =>
  args1_in k0 hn l Ba Bs Bt X B b off n c b' off' m c' p ar N A T hg hp har hc' hb hb' hBs hBt J Jx (fun s w w' h hb => AbidesFrom.below hJ h hb) hY W (Nat.le_trans hBW hW.size)
    ((hW.cell (p := ⟨Ba, 0, none⟩) hBa).trans hca) ((hW.cell (p := ⟨Bs, 0, none⟩) (by show Bs < w.heap.size; omega)).trans hcs) ((hW.cell (p := ⟨Bt, 0, none⟩) (by show Bt < w.heap.size; omega)).trans hct) (hs.keep hW) (ht.keep hW) h0

end Go.Proofs.Ytenlogljpgdbpaa
