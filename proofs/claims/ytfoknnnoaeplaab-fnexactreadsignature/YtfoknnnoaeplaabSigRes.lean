/- Contracts: answers that hold a signature: compared, marked, looked at again; ReadSignature of the model and of the program at every list of bytes. -/
import Derived.Test.YtfoknnnoaeplaabReadImpl
import Derived.Test.YtfoknnnoaeplaabIntsRes
namespace Go.Proofs.Ytfoknnnoaeplaab
open Go.RowKit

theorem specRead_all (b n c : Nat) (l : List Int) (w : World) (h : Byt.Row w b 0 n l) (hc : n ≤ c) (hx : c ≤ 1048576) :
    Calls Try.prog 17 #[.slice (some ⟨b, 0, none⟩) n c] w fun e w' => SigAns w l e w' ∧ Below w.heap.size w w' := by
  by_cases hn : 0 < n
  · exact specRead_any b n c l w h hc hx hn
  · obtain rfl : n = 0 := by omega
    exact specRead_none _ c l w h.len

theorem implRead_all (b n c : Nat) (l : List Int) (w : World) (h : Byt.Row w b 0 n l) (hc : n ≤ c) (hx : c ≤ 1048576) :
    Calls Try.prog 19 #[.slice (some ⟨b, 0, none⟩) n c] w fun e w' => SigAns w l e w' ∧ Below w.heap.size w w' := by
  by_cases hn : 0 < n
  · exact implRead_any b n c l w h hc hx hn
  · obtain rfl : n = 0 := by omega
    exact implRead_none _ c l w h.len

set_option maxHeartbeats 800000 in
theorem heldSymbolS_any (b n c k : Nat) (w : World) (h : Syms w b 0 n (mkN k) (mkA k)) (hn : n ≤ 1048576) (hk0 : 0 < k) (hk : k ≤ 1099511627776) :
    Calls Try.prog 69 #[.slice (some ⟨b, 0, none⟩) n c, .int .i64 (k : Int)] w fun e w' => e = .returned (.int .i64 ((k + 2 * n : Nat) : Int)) ∧ Below w.heap.size w w' := by
  have H0 := hidden h
  clear h
  go_enter Try.func69, Try.ntmps69
  go_wp2
  go_loopw [1, 5] (fun a i wr => ∃ j : Nat, j ≤ n ∧ i = .int .i64 j ∧ a = .int .i64 ((k + 2 * j : Nat) : Int) ∧ Hid (Below w.heap.size w wr)) (fun _ i _ => n - (intOf i).toNat)
  case atStart => exact ⟨0, Nat.zero_le _, rfl, by simp, hidden (Below.refl _ _)⟩
  case round =>
    obtain ⟨j, hj, rfl, rfl, HI⟩ := hrel
    by_cases hlt : j < n
    · have S := H0.out.keep HI.out
      have c0 := S.name j hlt
      rw [Nat.zero_add] at c0
      have c0' := c0
      rw [show mkN k j = mt (k + 2 * j) from rfl] at c0
      have H1 := hidden S
      clear S c0'
      have hsz : k + 2 * j < 100000000000000 := by omega
      have S1 := hidden (show ∀ wc, Below wr.heap.size wr wc → Calls Try.prog 67 #[.int .i64 ((k : Int) + 2 * j)] wc fun e w' => e = .returned (.string (mt (k + 2 * j))) ∧ Below wr.heap.size wr w' ∧ w'.cell? ⟨b, j * 2, none⟩ = some (.string (mt (k + 2 * j))) from fun wc hc => by
        rw [show (k : Int) + 2 * j = ((k + 2 * j : Nat) : Int) by omega]
        refine (markText_any (k + 2 * j) wc (by omega) hsz).mono ?_
        rintro e w' ⟨rfl, hb⟩
        have := (H1.out.keep (keepB hc hb)).name j hlt
        rw [Nat.zero_add] at this
        exact ⟨rfl, keepB hc hb, this⟩)
      go_wp2_with fail
      go_cut [19] (fun t wc => t = .bool false ∧ Below wr.heap.size wr wc)
      case first =>
        go_region_with (first
          | (go_at_call 67; with_reducible refine (S1.out _ ?_).mono ?_; exact (Below.refl _ _).drew; rintro e v5 ⟨rfl, b5', d5'⟩))
        all_goals (go_wp2_with fail; go_meet)
        all_goals exact ⟨by simp, b5'⟩
      case rest =>
        rename World => w5
        obtain ⟨rfl, hb⟩ := hcut
        have c1 := (H1.out.keep hb).arity j hlt
        rw [Nat.zero_add, show mkA k j = (k : Int) + 2 * j + 1 from by simp [mkA]] at c1
        have B := hidden (keepB HI.out hb)
        clear c0 S1 H1 HI hb
        go_wp2
        exact ⟨⟨j + 1, by omega, by go_num, by congr 1, B⟩, by simp [intOf]; omega⟩
    · obtain rfl : n = j := by omega
      go_wp2
      go_ret
      exact ⟨rfl, HI.out⟩

set_option maxHeartbeats 800000 in
theorem heldSignature_any (b n c k : Nat) (w : World) (h : Syms w b 0 n (mkN k) (mkA k)) (hn : n ≤ 1048576) (hk0 : 0 < k) (hk : k ≤ 1099511627776) :
    Calls Try.prog 49 #[.agg #[.slice (some ⟨b, 0, none⟩) n c], .int .i64 (k : Int)] w fun e w' => e = .returned (.int .i64 ((k + 2 * n : Nat) : Int)) ∧ Below w.heap.size w w' := by
  go_enter Try.func49, Try.ntmps49
  go_wp2_with fail
  refine (heldSymbolS_any b n c k _ (h.keep (alloc_below _ _)) hn hk0 hk).mono ?_
  rintro e w1 ⟨rfl, hb⟩
  have bb := keepB (alloc_below w _) hb
  clear hb
  have hz : ¬ ((k + 2 * n : Nat) : Int) < 0 := by omega
  generalize hq : ((k + 2 * n : Nat) : Int) = q at hz ⊢
  have HQ := hidden hq
  clear hq
  go_wp2
  go_ret
  exact ⟨by rw [HQ.out]; rfl, bb⟩

set_option maxHeartbeats 800000 in
theorem heldSig_any (z : Int) (b n c k : Nat) (w : World) (h : Syms w b 0 n (mkN k) (mkA k)) (hn : n ≤ 1048576) (hk0 : 0 < k) (hk : k ≤ 1099511627776) :
    Calls Try.prog 24 #[.agg #[.int .i64 z, .slice (some ⟨b, 0, none⟩) n c], .int .i64 (k : Int)] w fun e w' => e = .returned (.int .i64 ((k + 2 * n : Nat) : Int)) ∧ Below w.heap.size w w' := by
  go_enter Try.func24, Try.ntmps24
  go_wp2_with fail
  refine (heldSignature_any b n c k _ (h.keep (alloc_below _ _)) hn hk0 hk).mono ?_
  rintro e w1 ⟨rfl, hb⟩
  have bb := keepB (alloc_below w _) hb
  clear hb
  have hz : ¬ ((k + 2 * n : Nat) : Int) < 0 := by omega
  generalize hq : ((k + 2 * n : Nat) : Int) = q at hz ⊢
  have HQ := hidden hq
  clear hq
  go_wp2
  go_ret
  exact ⟨by rw [HQ.out]; rfl, bb⟩

set_option maxHeartbeats 800000 in
theorem heldSymbolS_none (k : Int) (w : World) :
    Calls Try.prog 69 #[.slice none 0 0, .int .i64 k] w fun e w' => e = .returned (.int .i64 k) ∧ w' = w := by
  go_enter Try.func69, Try.ntmps69
  go_wp2
  refine wp_loop_rounds 1 ?_
  rw [rounds_succ]
  go_wp2
  go_ret
  exact ⟨rfl, rfl⟩

set_option maxHeartbeats 800000 in
theorem heldSig_none (z : Int) (w : World) :
    Calls Try.prog 24 #[.agg #[.int .i64 z, .slice none 0 0], .int .i64 1] w fun e w' => e = .returned (.int .i64 1) ∧ Below w.heap.size w w' := by
  have h1 : ∀ w : World, Calls Try.prog 49 #[.agg #[.slice none 0 0], .int .i64 1] w fun e w' => e = .returned (.int .i64 1) ∧ Below w.heap.size w w' := by
    intro w
    go_enter Try.func49, Try.ntmps49
    go_wp2_with fail
    refine (heldSymbolS_none 1 _).mono ?_
    rintro e w1 ⟨rfl, rfl⟩
    go_wp2
    go_ret
    exact ⟨rfl, alloc_below w _⟩
  go_enter Try.func24, Try.ntmps24
  go_wp2_with fail
  refine (h1 _).mono ?_
  rintro e w1 ⟨rfl, hb⟩
  have bb := keepB (alloc_below w _) hb
  clear hb h1
  go_wp2
  go_ret
  exact ⟨rfl, bb⟩

set_option maxHeartbeats 800000 in
theorem markSymbolS_none (k : Int) (w : World) :
    Calls Try.prog 44 #[.slice none 0 0, .int .i64 k] w fun e w' => e = .returned (.int .i64 k) ∧ w' = w := by
  go_enter Try.func44, Try.ntmps44
  go_wp2
  refine wp_loop_rounds 1 ?_
  rw [rounds_succ]
  go_wp2
  go_ret
  exact ⟨rfl, rfl⟩

set_option maxHeartbeats 800000 in
theorem markSig_none (z : Int) (w : World) :
    Calls Try.prog 23 #[.agg #[.int .i64 z, .slice none 0 0], .int .i64 1] w fun e w' => e = .returned (.int .i64 1) ∧ Below w.heap.size w w' := by
  have h1 : ∀ w : World, Calls Try.prog 14 #[.agg #[.slice none 0 0], .int .i64 1] w fun e w' => e = .returned (.int .i64 1) ∧ Below w.heap.size w w' := by
    intro w
    go_enter Try.func14, Try.ntmps14
    go_wp2_with fail
    refine (markSymbolS_none 1 _).mono ?_
    rintro e w1 ⟨rfl, rfl⟩
    go_wp2
    go_ret
    exact ⟨rfl, alloc_below w _⟩
  go_enter Try.func23, Try.ntmps23
  go_wp2_with fail
  refine (h1 _).mono ?_
  rintro e w1 ⟨rfl, hb⟩
  have bb := keepB (alloc_below w _) hb
  clear hb h1
  go_wp2
  go_ret
  exact ⟨rfl, bb⟩

set_option maxHeartbeats 800000 in
theorem markSig_any (z : Int) (B g n c k : Nat) (N : Nat → ByteArray) (A : Nat → Int) (w : World) (h : OwnS w B g n c N A n) (hn : n ≤ 1048576) (hk0 : 0 < k) (hk : k ≤ 1099511627776) :
    Calls Try.prog 23 #[.agg #[.int .i64 z, .slice (some ⟨g, 0, none⟩) n c], .int .i64 (k : Int)] w fun e w' => e = .returned (.int .i64 ((k + 2 * n : Nat) : Int)) ∧ OwnS w' B g n c (mkN k) (mkA k) n ∧ w.grownBy w' (some g) := by
  go_enter Try.func23, Try.ntmps23
  go_wp2_with fail
  refine (markSignature_any B g n c k N A _ (h.keep (alloc_below _ _)) hn hk0 hk).mono ?_
  rintro e w1 ⟨rfl, ho, hg⟩
  have H1 := hidden (And.intro ho (grownBy_trans (World.grownBy_alloc w _ (some g)) hg))
  clear ho hg
  go_wp2
  go_ret
  exact ⟨rfl, H1.out.1, H1.out.2⟩

theorem mt_size (k : Nat) (h : k < 100000000000000) : (mt k).size ≤ 1048576 := by
  have : ∀ (j : Nat) (k : Nat) (out : ByteArray), k < 10 ^ j → (mtTail k out).size ≤ out.size + j := by
    intro j
    induction j with
    | zero => intro k out hk; obtain rfl : k = 0 := by simp at hk; exact hk
              rw [mtTail_zero]; omega
    | succ j ih =>
      intro k out hk
      by_cases hz : k = 0
      · subst hz; rw [mtTail_zero]; omega
      · rw [mtTail_step hz]
        have h1 := ih (k / 10) (dig k ++ out) (by rw [Nat.pow_succ] at hk; omega)
        have h2 : (dig k ++ out).size = 1 + out.size := by rw [ByteArray.size_append]; rfl
        omega
  have h1 := this 14 k ByteArray.empty (by omega)
  have h2 : (ByteArray.empty).size = 0 := rfl
  have h3 : (mt k).size = 1 + (mtTail k ByteArray.empty).size := by rw [mt, ByteArray.size_append]; rfl
  omega

theorem mk_kept (n : Nat) (hn : n ≤ 1048576) : Kept n (mkN 1) (mkA 1) :=
  ⟨hn, fun i hi => mt_size _ (by omega), fun i hi => by simp only [mkA]; omega⟩

/- The same at 1, as the walk has it. -/
theorem markSig_z (z : Int) (B g n c : Nat) (N : Nat → ByteArray) (A : Nat → Int) (w : World) (h : OwnS w B g n c N A n) (hn : n ≤ 1048576) :
    Calls Try.prog 23 #[.agg #[.int .i64 z, .slice (some ⟨g, 0, none⟩) n c], .int .i64 1] w fun e w' => e = .returned (.int .i64 (1 + 2 * n)) ∧ OwnS w' B g n c (mkN 1) (mkA 1) n ∧ w.grownBy w' (some g) := by
  refine (markSig_any z B g n c 1 N A w h hn (by omega) (by omega)).mono ?_
  rintro e w' ⟨rfl, h1, h2⟩
  exact ⟨by congr 2, h1, h2⟩

theorem heldSig_z (z : Int) (B g n c : Nat) (w : World) (h : OwnS w B g n c (mkN 1) (mkA 1) n) (hn : n ≤ 1048576) :
    Calls Try.prog 24 #[.agg #[.int .i64 z, .slice (some ⟨g, 0, none⟩) n c], .int .i64 1] w fun e w' => e = .returned (.int .i64 (1 + 2 * n)) ∧ Below w.heap.size w w' := by
  refine (heldSig_any z g n c 1 w (h.syms (mk_kept n hn).big (mk_kept n hn).fits) hn (by omega) (by omega)).mono ?_
  rintro e w' ⟨rfl, h1⟩
  exact ⟨by congr 2, h1⟩

set_option maxHeartbeats 800000 in
theorem eqSig_eq (z : Int) (B b B' b' n c c' : Nat) (N : Nat → ByteArray) (A : Nat → Int) (w : World) (h : OwnS w B b n c N A n) (h' : OwnS w B' b' n c' N A n) (hk : Kept n N A) :
    Calls Try.prog 20 #[.agg #[.int .i64 z, .slice (some ⟨b, 0, none⟩) n c], .agg #[.int .i64 z, .slice (some ⟨b', 0, none⟩) n c']] w fun e w' => e = .returned (.bool true) ∧ Below w.heap.size w w' := by
  have h1 := fun o1 o2 => (((h.syms hk.big hk.fits).keep (alloc_below w o1)).keep (alloc_below _ o2))
  have h2 := fun o1 o2 => (((h'.syms hk.big hk.fits).keep (alloc_below w o1)).keep (alloc_below _ o2))
  go_enter Try.func20, Try.ntmps20
  go_wp2_with fail
  refine (eqSignature_eq _ _ _ _ _ _ _ N A _ (h1 _ _) (h2 _ _) hk.most).mono ?_
  rintro e w' ⟨rfl, hb⟩
  have bb := keepB (keepB (alloc_below w _) (alloc_below _ _)) hb
  clear hb h1 h2
  go_wp2
  go_ret
  exact ⟨rfl, bb⟩

set_option maxHeartbeats 800000 in
theorem eqSymbolS_none (w : World) :
    Calls Try.prog 43 #[.slice none 0 0, .slice none 0 0] w fun e w' => e = .returned (.bool true) ∧ w' = w := by
  go_enter Try.func43, Try.ntmps43
  go_wp2
  refine wp_loop_rounds 1 ?_
  rw [rounds_succ]
  go_wp2
  go_ret
  exact ⟨rfl, rfl⟩

set_option maxHeartbeats 800000 in
theorem eqSig_none (z : Int) (w : World) :
    Calls Try.prog 20 #[.agg #[.int .i64 z, .slice none 0 0], .agg #[.int .i64 z, .slice none 0 0]] w fun e w' => e = .returned (.bool true) ∧ Below w.heap.size w w' := by
  have h1 : ∀ w : World, Calls Try.prog 13 #[.agg #[.slice none 0 0], .agg #[.slice none 0 0]] w fun e w' => e = .returned (.bool true) ∧ Below w.heap.size w w' := by
    intro w
    go_enter Try.func13, Try.ntmps13
    go_wp2_with fail
    refine (eqSymbolS_none _).mono ?_
    rintro e w1 ⟨rfl, rfl⟩
    go_wp2
    go_ret
    exact ⟨rfl, keepB (alloc_below w _) (alloc_below _ _)⟩
  go_enter Try.func20, Try.ntmps20
  go_wp2_with fail
  refine (h1 _).mono ?_
  rintro e w1 ⟨rfl, hb⟩
  have bb := keepB (keepB (alloc_below w _) (alloc_below _ _)) hb
  clear hb h1
  go_wp2
  go_ret
  exact ⟨rfl, bb⟩

theorem Byt.Src.keep {w w' : World} {p : Option Addr} {n : Nat} {l : List Int} (h : Byt.Src w p n l) (hb : Below w.heap.size w w') : Byt.Src w' p n l := Byt.Src.later h hb
theorem Byt.Row.keep {w w' : World} {b off n : Nat} {l : List Int} (h : Byt.Row w b off n l) (hb : Below w.heap.size w w') : Byt.Row w' b off n l := h.later hb h.blk

/-- A copy of bytes owns its memory. -/
theorem toBy_own (p : Option Addr) (n c : Nat) (l : List Int) (w : World) (h : Byt.Src w p n l) :
    Calls Try.prog 18 #[.slice p n c] w fun e w' => ∃ g, e = .returned (.slice (some ⟨g, 0, none⟩) n n) ∧ w.heap.size ≤ g ∧ OwnR w' w.heap.size g n n (l.map (Value.int .u8)) ∧ Below w.heap.size w w' := by
  refine (Byt.toByteS_any p n c l w h).mono ?_
  rintro e w' ⟨rfl, ho, hb⟩
  exact ⟨w.heap.size, rfl, Nat.le_refl _, ho, hb⟩

theorem markRow_z (B g n d : Nat) (xs : List Value) (w : World) (h : OwnR w B g n d xs) (hm : n ≤ 1048576) :
    Calls Try.prog 22 #[.slice (some ⟨g, 0, none⟩) n d, .int .i64 1] w fun e w' => e = .returned (.int .i64 (1 + n)) ∧ OwnR w' B g n d (Byt.markVals 1 n) ∧ w.grownBy w' (some g) :=
  Byt.markByteS_any B g n d 1 xs w h hm (by omega) (by omega)

theorem specRead_ok (b n : Nat) (l : List Int) (q : Nat) (w : World) (h : Byt.Row w b 0 n l) (hx : n ≤ 1048576) (hw : whole l) (hq : (l.getD 0 0).toNat = q) :
    Calls Try.prog 17 #[.slice (some ⟨b, 0, none⟩) n n] w fun e w' => ∃ g d, e = .returned (.agg #[.int .i64 0, .slice (some ⟨g, 0, none⟩) q d]) ∧ w.heap.size ≤ g ∧ OwnS w' w.heap.size g q d (nmOf l) (arOf l) q ∧ Below w.heap.size w w' := by
  refine (specRead_all b n n l w h (Nat.le_refl _) hx).mono ?_
  subst hq
  rintro e w' ⟨⟨hn, _⟩ | ⟨_, g, d, rfl, h1, h2⟩, hb⟩
  · exact absurd hw hn
  · exact ⟨g, d, rfl, h1, h2, hb⟩

theorem specRead_bad (b n : Nat) (l : List Int) (w : World) (h : Byt.Row w b 0 n l) (hx : n ≤ 1048576) (hw : ¬ whole l) :
    Calls Try.prog 17 #[.slice (some ⟨b, 0, none⟩) n n] w fun e w' => e = .returned (.agg #[.int .i64 5, .slice none 0 0]) ∧ Below w.heap.size w w' := by
  refine (specRead_all b n n l w h (Nat.le_refl _) hx).mono ?_
  rintro e w' ⟨⟨_, rfl⟩ | ⟨hn, _⟩, hb⟩
  · exact ⟨rfl, hb⟩
  · exact absurd hn hw

theorem implRead_ok (b n : Nat) (l : List Int) (q : Nat) (w : World) (h : Byt.Row w b 0 n l) (hx : n ≤ 1048576) (hw : whole l) (hq : (l.getD 0 0).toNat = q) :
    Calls Try.prog 19 #[.slice (some ⟨b, 0, none⟩) n n] w fun e w' => ∃ g d, e = .returned (.agg #[.int .i64 0, .slice (some ⟨g, 0, none⟩) q d]) ∧ w.heap.size ≤ g ∧ OwnS w' w.heap.size g q d (nmOf l) (arOf l) q ∧ Below w.heap.size w w' := by
  refine (implRead_all b n n l w h (Nat.le_refl _) hx).mono ?_
  subst hq
  rintro e w' ⟨⟨hn, _⟩ | ⟨_, g, d, rfl, h1, h2⟩, hb⟩
  · exact absurd hw hn
  · exact ⟨g, d, rfl, h1, h2, hb⟩

theorem implRead_bad (b n : Nat) (l : List Int) (w : World) (h : Byt.Row w b 0 n l) (hx : n ≤ 1048576) (hw : ¬ whole l) :
    Calls Try.prog 19 #[.slice (some ⟨b, 0, none⟩) n n] w fun e w' => e = .returned (.agg #[.int .i64 5, .slice none 0 0]) ∧ Below w.heap.size w w' := by
  refine (implRead_all b n n l w h (Nat.le_refl _) hx).mono ?_
  rintro e w' ⟨⟨_, rfl⟩ | ⟨hn, _⟩, hb⟩
  · exact ⟨rfl, hb⟩
  · exact absurd hn hw

end Go.Proofs.Ytfoknnnoaeplaab
