/- Contracts: the two terms of a key: the model's l5Cut and CutKey. -/
import Derived.Test.YtcnkkoegfjggaaaUp
import Derived.Test.YtcnkkoegfjggaaaKey
import Derived.Test.YtcnkkoegfjggaaaKeyRes
namespace Go.Proofs.Ytcnkkoegfjggaaa
open Go.RowKit

/-- Bytes from a place on. -/
def behind (l : Nat → Int) (k : Nat) : Nat → Int := fun i => l (k + i)

theorem Byts.behind {w : World} {b off m : Nat} {l : Nat → Int} (h : Byts w (some ⟨b, off, none⟩) m l) {k : Nat} (hk : k ≤ m) : Byts w (some ⟨b, off + k, none⟩) (m - k) (behind l k) := by
  refine ⟨?_, fun i hi => h.byt (k + i) (by omega)⟩
  rcases h.row with e | ⟨b', off', e, h1, h2⟩
  · exact Or.inl (by omega)
  · cases e
    exact Or.inr ⟨b, off + k, rfl, h1, fun i hi => by rw [Nat.add_assoc]; exact h2 (k + i) (by omega)⟩

/-- How many bytes the second term has. -/
noncomputable def rd2 (n : Nat) (A : Nat → Int) (m : Nat) (l : Nat → Int) : Nat := rdK n A (m - rdK n A m l) (behind l (rdK n A m l))

/-- Bytes are those of two terms that may be a key. -/
structure CutP (n : Nat) (A : Nat → Int) (m : Nat) (l : Nat → Int) : Prop where
  k1 : rdK n A m l ≠ 0
  k2 : rd2 n A m l ≠ 0
  all : rdK n A m l + rd2 n A m l = m
  short : shortC (rdK n A m l) (nodT l) (rd2 n A m l) (nodT (behind l (rdK n A m l))) = 0

/-- What cutting answers: nothing, or two lists of its own. -/
def CutAns (w : World) (P : Prop) (K1 : Nat) (T1 : Nat → Int) (K2 : Nat) (T2 : Nat → Int) (e : Ending) (w' : World) : Prop :=
  (¬ P ∧ e = .returned (.tuple #[.slice none 0 0, .slice none 0 0, .bool false])) ∨
  (P ∧ ∃ g1 d1 g2 d2, e = .returned (.tuple #[.slice (some ⟨g1, 0, none⟩) K1 d1, .slice (some ⟨g2, 0, none⟩) K2 d2, .bool true]) ∧ w.heap.size ≤ g1 ∧ g1 < g2 ∧ OwnI w' w.heap.size g1 K1 d1 T1 K1 ∧ OwnI w' w.heap.size g2 K2 d2 T2 K2)

set_option maxRecDepth 20000 in
set_option maxHeartbeats 1600000 in
theorem l5Cut_any (B b off n c b' off' m c' : Nat) (N : Nat → ByteArray) (A l : Nat → Int) (w : World) (hd : One w B (.slice (some ⟨b, off, none⟩) n c)) (h : Syms w b off n N A) (hs : Sound n A) (hm : m ≤ 1048576) (hmc : m ≤ c') (hl : Byts w (some ⟨b', off', none⟩) m l) :
    Calls Try.prog 49 #[.pointer (some ⟨B, 0, none⟩), .slice (some ⟨b', off', none⟩) m c'] w fun e w' => CutAns w (CutP n A m l) (rdK n A m l) (nodT l) (rd2 n A m l) (nodT (behind l (rdK n A m l))) e w' ∧ Below w.heap.size w w' := by
  have D := hidden hd
  have Q := hidden h
  have HS := hidden hs
  have I := hidden hl
  clear hd h hs hl
  go_enter Try.func49, Try.ntmps49
  go_wp2_with fail
  with_reducible refine (l5Read_any _ _ _ _ _ _ m c' N A l _ D.out Q.out HS.out hm I.out).mono ?_
  rintro r w1 ⟨ha, hb⟩
  have B1 := hidden hb
  replace D := hidden (D.out.keep hb)
  replace Q := hidden (Q.out.keep hb)
  replace I := hidden (I.out.keep hb)
  clear hb
  have hle := (rd_le (n := n) (A := A) (m := m) (l := l))
  rcases ha with ⟨h0, rfl⟩ | ⟨h0, g1, d1, rfl, hg1, ho⟩
  · have HN := hidden (show ¬ CutP n A m l from fun h => h.k1 h0)
    clear h0 hle
    go_wp2
    go_ret3
    exact ⟨Or.inl ⟨HN.out, rfl⟩, B1.out⟩
  · have O1 := hidden ho
    have HB := hidden (I.out.behind hle.1)
    have HK2 := hidden (show rd2 n A m l = rdK n A (m - rdK n A m l) (behind l (rdK n A m l)) from rfl)
    have HP := hidden (fun (a : rdK n A m l ≠ 0) b c d => CutP.mk (n := n) (A := A) (m := m) (l := l) a b c d)
    have HP1 := hidden (fun h : CutP n A m l => h.k2)
    have HP2 := hidden (fun h : CutP n A m l => h.all)
    have HP3 := hidden (fun h : CutP n A m l => h.short)
    generalize hT : nodT (behind l (rdK n A m l)) = T2 at *
    have HT := hidden hT
    clear hT ho
    generalize hk : rdK n A m l = K1 at *
    have HE := hidden hk
    clear hk
    have e1 : ((K1 : Int) == 0) = false := by simp; omega
    have hk1 : K1 ≤ m := hle.1
    have h24 : K1 ≤ 24 := hle.2
    clear hle
    have RD := hidden (show ∀ (p' : Option Addr) (cc : Nat) (ww : World), One ww B (.slice (some ⟨b, off, none⟩) n c) → Syms ww b off n N A → Byts ww p' (m - K1) (behind l K1) → Calls Try.prog 46 #[.pointer (some ⟨B, 0, none⟩), .slice p' (m - K1) cc] ww fun e w' => ReadAns ww (rd2 n A m l) T2 e w' ∧ Below ww.heap.size ww w' from fun p' cc ww a1 a2 a3 => by
      rw [HK2.out, ← HT.out]
      exact l5Read_any B b off n c p' (m - K1) cc N A (behind l K1) ww a1 a2 HS.out (by omega) a3)
    have hle2 := (rd_le (n := n) (A := A) (m := m - K1) (l := behind l K1))
    rw [← HK2.out] at hle2
    generalize hk : rd2 n A m l = K2 at *
    have HE2 := hidden hk
    clear hk HK2
    by_cases hcK : c' = K1
    · obtain rfl : m = K1 := by omega
      have hz : K2 = 0 := by omega
      have HN := hidden (show ¬ CutP n A m l from fun h => HP1.out h hz)
      subst hcK
      have R0 := RD.out (some ⟨b', off', none⟩) 0 w1 D.out Q.out ⟨Or.inl (Nat.sub_self _), fun i hi => by omega⟩
      rw [Nat.sub_self] at R0
      have RZ := hidden R0
      clear R0
      go_wp2_with fail
      with_reducible refine RZ.out.mono ?_
      rintro r w2 ⟨ha, hb⟩
      replace B1 := hidden (keepB B1.out hb)
      clear hb
      rcases ha with ⟨h2, rfl⟩ | ⟨h2, -⟩
      · go_wp2
        go_ret3
        exact ⟨Or.inl ⟨HN.out, rfl⟩, B1.out⟩
      · omega
    · go_wp2_with fail
      with_reducible refine (RD.out _ _ _ D.out Q.out HB.out).mono ?_
      rintro r w2 ⟨ha, hb⟩
      have hlt := O1.out.lt
      replace O1 := hidden (O1.out.keep hb)
      replace B1 := hidden (keepB B1.out hb)
      clear hb
      rcases ha with ⟨h2, rfl⟩ | ⟨h2, g2, d2, rfl, hg2, ho⟩
      · have HN := hidden (show ¬ CutP n A m l from fun h => HP1.out h h2)
        clear h2
        go_wp2
        go_ret3
        exact ⟨Or.inl ⟨HN.out, rfl⟩, B1.out⟩
      · have O2 := hidden ho
        have e2 : ((K2 : Int) == 0) = false := by simp; omega
        clear ho
        by_cases hall : K1 + K2 = m
        · have e3 : ((K1 : Int) + (K2 : Int) != (m : Int)) = false := by simp; omega
          go_wp2_with fail
          with_reducible refine (l5Short_any _ _ _ _ _ _ _ _ (nodT l) T2 _ O1.out.ints O2.out.ints (by omega) (by omega)).mono ?_
          rintro r w3 ⟨rfl, hb⟩
          replace O1 := hidden (O1.out.keep hb)
          replace O2 := hidden (O2.out.keep hb)
          replace B1 := hidden (keepB B1.out hb)
          clear hb
          by_cases hsh : shortC K1 (nodT l) K2 T2 = 0
          · have HY := hidden (HP.out (by omega) (by omega) hall hsh)
            rw [hsh]
            clear hsh
            go_wp2
            go_ret3
            exact ⟨Or.inr ⟨HY.out, g1, d1, g2, d2, by rw [HE.out, HE2.out]; rfl, hg1, by omega, by rw [HE.out]; exact O1.out, by rw [HE2.out, HE.out, HT.out]; exact O2.out.base (by omega)⟩, B1.out⟩
          · have HN := hidden (show ¬ CutP n A m l from fun h => hsh (HP3.out h))
            have hs' : (shortC K1 (nodT l) K2 T2 != 0) = true := by simpa using hsh
            generalize shortC K1 (nodT l) K2 T2 = z at hs' ⊢
            clear hsh
            go_wp2
            go_ret3
            exact ⟨Or.inl ⟨HN.out, rfl⟩, B1.out⟩
        · have HN := hidden (show ¬ CutP n A m l from fun h => hall (HP2.out h))
          have e3 : ((K1 : Int) + (K2 : Int) != (m : Int)) = true := by simp; omega
          clear hall
          go_wp2
          go_ret3
          exact ⟨Or.inl ⟨HN.out, rfl⟩, B1.out⟩

end Go.Proofs.Ytcnkkoegfjggaaa
