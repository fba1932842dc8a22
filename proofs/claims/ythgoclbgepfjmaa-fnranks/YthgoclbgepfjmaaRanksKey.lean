/- Law FnRanks: a symbol that is raised changes its rank with one other one alone. -/
import Derived.Test.YthgoclbgepfjmaaDrawRank
import Derived.Test.YthgoclbgepfjmaaRankMath
import Derived.Test.YthgoclbgepfjmaaNil
namespace Go.Proofs.Ythgoclbgepfjmaa
open Go.RowKit

set_option maxHeartbeats 400000 in
theorem lwBig_any (p : Option Addr) (n c : Nat) (w : World) (hn : n ≤ 1048576) : Calls Try.prog 7 #[.slice p n c] w fun e w' => e = .returned (.bool false) ∧ w' = w := by
  have h : ¬ (1048576 : Int) < n := by omega
  go_enter Try.func7, Try.ntmps7
  go_wp2
  go_ret
  exact ⟨rfl, rfl⟩

set_option maxHeartbeats 400000 in
theorem lwBig_big (p : Option Addr) (n c : Nat) (w : World) (hn : ¬ n ≤ 1048576) : Calls Try.prog 7 #[.slice p n c] w fun e w' => e = .returned (.bool true) ∧ w' = w := by
  have h : (1048576 : Int) < n := by omega
  go_enter Try.func7, Try.ntmps7
  go_wp2
  go_ret
  exact ⟨rfl, rfl⟩

/-- What a drawn signature, precedence and number may be: one for which nothing can be raised, or a right one. -/
theorem ranks_key (q : Option Addr) (n d0 g off m d : Nat) (x : Int) (w1 : World) (hm : m ≤ 7) (hL : ∃ L, Ints w1 g off m L) (hv : SigV w1 (.slice q n d0)) :
    (∃ C O K : Int, C ≠ 0 ∧ (∀ wc, Below w1.heap.size w1 wc → Calls Try.prog 21 #[.agg #[.slice q n d0], .slice (some ⟨g, off, none⟩) m d, .int .i64 x] wc fun e w' => e = .returned (.agg #[.int .i64 C, .slice none 0 0]) ∧ Below wc.heap.size wc w') ∧ (∀ wc, Below w1.heap.size w1 wc → Calls Try.prog 22 #[.agg #[.slice q n d0], .slice (some ⟨g, off, none⟩) m d, .int .i64 x] wc fun e w' => (∃ a b k, e = .returned (.agg #[.int .i64 C, .slice a b k])) ∧ Below wc.heap.size wc w') ∧ (∀ wc, Below w1.heap.size w1 wc → Calls Try.prog 23 #[.agg #[.slice q n d0], .slice (some ⟨g, off, none⟩) m d] wc fun e w' => e = .returned (.int .i64 O) ∧ Below wc.heap.size wc w') ∧ (∀ wc, Below w1.heap.size w1 wc → Calls Try.prog 24 #[.agg #[.slice q n d0], .slice (some ⟨g, off, none⟩) m d] wc fun e w' => e = .returned (.int .i64 O) ∧ Below wc.heap.size wc w') ∧ (∀ wc, Below w1.heap.size w1 wc → Calls Try.prog 25 #[.agg #[.slice q n d0], .slice (some ⟨g, off, none⟩) m d, .int .i64 x] wc fun e w' => (∃ z, e = .returned (.agg #[.int .i64 K, .int .i64 z])) ∧ Below wc.heap.size wc w') ∧ (∀ wc, Below w1.heap.size w1 wc → Calls Try.prog 26 #[.agg #[.slice q n d0], .slice (some ⟨g, off, none⟩) m d, .int .i64 x] wc fun e w' => (∃ z, e = .returned (.agg #[.int .i64 K, .int .i64 z])) ∧ Below wc.heap.size wc w')) ∨ (∃ g0 N A L, q = some ⟨g0, 0, none⟩ ∧ n ≤ 7 ∧ Kept n N A ∧ Syms w1 g0 0 n N A ∧ Ints w1 g off m L ∧ raC n N A m L x = 0) := by
  obtain ⟨L, hL⟩ := hL
  rcases hv with hv | ⟨g0, n', d', N, A, hv, hn, hk, hS⟩
  · cases hv
    exact Or.inl ⟨2, 2, 2, by decide, fun wc _ => implRaise_nil _ _ _ _ wc, fun wc _ => (specRaise_nil _ _ _ _ wc).mono (fun e w' h => ⟨⟨_, _, _, h.1⟩, h.2⟩), fun wc _ => implOrder_nil _ _ _ wc, fun wc _ => specOrder_nil _ _ _ wc, fun wc _ => (implRank_nil _ _ _ _ wc).mono (fun e w' h => ⟨⟨_, h.1⟩, h.2⟩), fun wc _ => (specRank_nil _ _ _ _ wc).mono (fun e w' h => ⟨⟨_, h.1⟩, h.2⟩)⟩
  · cases hv
    by_cases hc : raC n N A m L x = 0
    · exact Or.inr ⟨g0, N, A, L, rfl, hn, hk, hS, hL, hc⟩
    · refine Or.inl ⟨raC n N A m L x, orderF n N A m L, rkC n N A m L x, hc, fun wc hb => ?_, fun wc hb => ?_, fun wc hb => implOrder_any _ _ _ _ _ _ _ _ N A L wc (hS.keep hb) (hL.keep hb) hk (by omega), fun wc hb => specOrder_any _ _ _ _ _ _ _ _ N A L wc (hS.keep hb) (hL.keep hb) hk, fun wc hb => (implRank_any _ _ _ _ _ _ _ _ N A L x wc (hS.keep hb) (hL.keep hb) hk (by omega)).mono (fun e w' h => ⟨⟨_, h.1⟩, h.2⟩), fun wc hb => (specRank_any _ _ _ _ _ _ _ _ N A L x wc (hS.keep hb) (hL.keep hb) hk (by omega)).mono (fun e w' h => ⟨⟨_, h.1⟩, h.2⟩)⟩
      · refine (implRaise_any _ _ _ _ _ _ _ _ N A L x wc (hS.keep hb) (hL.keep hb) hk (by omega)).mono ?_
        rintro e w' ⟨⟨_, rfl⟩ | ⟨h0, _⟩, hb'⟩
        · exact ⟨rfl, hb'⟩
        · exact absurd h0 hc
      · refine (specRaise_any _ _ _ _ _ _ _ _ N A L x wc (hS.keep hb) (hL.keep hb) hk (by omega)).mono ?_
        rintro e w' ⟨⟨_, rfl⟩ | ⟨h0, _⟩, hb'⟩
        · exact ⟨⟨_, _, _, rfl⟩, hb'⟩
        · exact absurd h0 hc

end Go.Proofs.Ythgoclbgepfjmaa
