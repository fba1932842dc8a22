/- The program's worlds: bitsOf and worldOf. -/
import Derived.Test.YtdcngfdklpdpkaaAlW
namespace Go.Proofs.Ytdcngfdklpdpkaa
open Go.RowKit

/-- Six cells of bits, which may be written. -/
structure Six (w : World) (b : Nat) (f : Nat → Int) : Prop where
  blk : b < w.heap.size
  cell : ∀ i, i < 6 → w.cell? ⟨b, i, none⟩ = some (.int .u8 (f i))
  frz : ∀ i, i < 6 → w.frozen? ⟨b, i, none⟩ = false
theorem Six.keep {w w' : World} {b : Nat} {f : Nat → Int} (h : Six w b f) (hb : Below w.heap.size w w') : Six w' b f :=
  ⟨Nat.lt_of_lt_of_le h.blk hb.size, fun i hi => by rw [hb.cell (p := ⟨b, i, none⟩) h.blk]; exact h.cell i hi, fun i hi => by rw [hb.frozen (p := ⟨b, i, none⟩) h.blk]; exact h.frz i hi⟩
theorem Six.put {w : World} {b k : Nat} {f : Nat → Int} (h : Six w b f) (hk : k < 6) (x : Int) : Six (w.setCell ⟨b, k, none⟩ (.int .u8 x)) b (fun i => if i = k then x else f i) := by
  refine ⟨by simpa using h.blk, fun i hi => ?_, fun i hi => by simpa [go_sem] using h.frz i hi⟩
  by_cases e : i = k
  · subst e
    simp only [if_true]
    exact World.cell?_setCell_same' _ _ _ (by rw [h.cell i hi]; rfl)
  · simp only [e, if_false]
    rw [World.cell?_setCell_other _ _ _ _ (by intro h1; injection h1 with h2 h3 h4; exact e h3.symm)]
    exact h.cell i hi
theorem Six.away {w : World} {b : Nat} {f : Nat → Int} {p : Addr} (h : Six w b f) (hp : p.block ≠ b) (v : Value) : Six (w.setCell p v) b f :=
  ⟨by simpa using h.blk, fun i hi => by rw [World.cell?_setCell_other _ _ _ _ (by intro h1; exact hp (congrArg Addr.block h1))]; exact h.cell i hi, fun i hi => by simpa [go_sem] using h.frz i hi⟩
theorem Six.new (w : World) (t : TypeId) : Six (w.alloc (.cells #[.int .u8 0, .int .u8 0, .int .u8 0, .int .u8 0, .int .u8 0, .int .u8 0] t)) w.heap.size (fun _ => 0) := by
  refine ⟨by simp, fun i hi => ?_, fun i hi => by simp [go_sem]⟩
  obtain rfl | rfl | rfl | rfl | rfl | rfl : i = 0 ∨ i = 1 ∨ i = 2 ∨ i = 3 ∨ i = 4 ∨ i = 5 := by omega
  all_goals simp [go_sem]

/-- The bits that are there when k tables and q numbers of the next one are done. -/
def bxK (D : LsL) (k q : Nat) (i : Nat) : Int := if i < k then btT (D.L i) (D.m i) else if i = k then btT (D.L i) q else 0

theorem or_bit {x y : Int} {q : Nat} (hq : q < 4) (hx : 0 ≤ x ∧ x < 2 ^ q) (hy : 0 ≤ y ∧ y < 2) : bits BinOp.or IntKind.u8 x (y * 2 ^ q % 256) = x + y * 2 ^ q := by
  obtain rfl | rfl | rfl | rfl : q = 0 ∨ q = 1 ∨ q = 2 ∨ q = 3 := by omega
  all_goals
    obtain rfl | rfl : y = 0 ∨ y = 1 := by omega
    all_goals
      obtain rfl | rfl | rfl | rfl | rfl | rfl | rfl | rfl : x = 0 ∨ x = 1 ∨ x = 2 ∨ x = 3 ∨ x = 4 ∨ x = 5 ∨ x = 6 ∨ x = 7 := by omega
      all_goals (first | (exfalso; omega) | kernel_rfl)

set_option maxRecDepth 20000 in
set_option maxHeartbeats 6400000 in
theorem bitsOf_any (b o n c : Nat) (A : Nat → Int) (D : LsL) (w : World) (h : Mats w b o n D) (ho : AlgOk n A 2 D) :
    Calls Try.prog 97 #[.slice (some ⟨b, o, none⟩) n c] w fun e w' => e = .returned (arr6 (bxT n D)) ∧ Below w.heap.size w w' := by
  have hn6 := ho.sig.most
  have HT := hidden h
  have HO := hidden ho
  have m4 := hidden (show ∀ i, i < n → D.m i ≤ 4 from fun i hi => by
    have h1 := (ho.tab i hi).1
    have ha := ho.sig.arity i hi
    obtain e | e | e : A i = 0 ∨ A i = 1 ∨ A i = 2 := by omega
    all_goals (rw [e] at h1; simp at h1; omega))
  have bA := alloc_below w (.cells #[.int .u8 0, .int .u8 0, .int .u8 0, .int .u8 0, .int .u8 0, .int .u8 0] 135)
  have bB := alloc_below (w.alloc (.cells #[.int .u8 0, .int .u8 0, .int .u8 0, .int .u8 0, .int .u8 0, .int .u8 0] 135)) (.cells #[.int .u8 0, .int .u8 0, .int .u8 0, .int .u8 0, .int .u8 0, .int .u8 0] 135)
  have R := hidden ((Six.new w 135).keep bB)
  have X := hidden (show Six _ (w.heap.size + 1) (fun _ => 0) from by have := Six.new (w.alloc (.cells #[.int .u8 0, .int .u8 0, .int .u8 0, .int .u8 0, .int .u8 0, .int .u8 0] 135)) 135; rwa [World.size_alloc] at this)
  have B := hidden (keepB bA bB)
  have LB := hidden h.blk
  clear bA bB h ho
  go_enter Try.func97, Try.ntmps97
  go_wp2
  obtain ⟨W, hW⟩ : ∃ W, W = (w.alloc (.cells #[.int .u8 0, .int .u8 0, .int .u8 0, .int .u8 0, .int .u8 0, .int .u8 0] 135)).alloc (.cells #[.int .u8 0, .int .u8 0, .int .u8 0, .int .u8 0, .int .u8 0, .int .u8 0] 135) := ⟨_, rfl⟩
  rw [← hW] at R X B ⊢
  clear hW
  go_loopw [10] (fun i wr => ∃ k : Nat, k ≤ n ∧ i = .int .i64 (k : Int) ∧ Hid (Six wr (w.heap.size + 1) (bxK D k 0)) ∧ Hid (Six wr w.heap.size (fun _ => 0)) ∧ Hid (Below w.heap.size w wr)) (fun i _ => n - (intOf i).toNat)
  case atStart => exact ⟨0, Nat.zero_le _, rfl, hidden ⟨X.out.blk, fun i hi => by rw [X.out.cell i hi]; simp [bxK, btT], X.out.frz⟩, R, B⟩
  case round =>
    clear X R B
    obtain ⟨k, hk, rfl, X, R, BL⟩ := hrel
    by_cases hlt : k < n
    · obtain ⟨g, og, cg, t1, t2, t3⟩ := (HT.out).cells hlt
      have hgb : D.m k ≤ 4 := m4.out k hlt
      have c1 : wr.cell? ⟨b, o + k, none⟩ = _ := ((bcell BL.out).1 b (o + k) (LB.out (by omega))).trans t1
      have HI := hidden t2
      have HR2 := hidden (HO.out.tab k hlt).2
      have hk6 : k < 6 := by omega
      clear t1 t2 HT
      go_wp2
      go_loopw [17] (fun i wq => ∃ q : Nat, q ≤ D.m k ∧ i = .int .i64 (q : Int) ∧ Hid (Six wq (w.heap.size + 1) (bxK D k q)) ∧ Hid (Six wq w.heap.size (fun _ => 0)) ∧ Hid (Below w.heap.size w wq)) (fun i _ => D.m k - (intOf i).toNat)
      case atStart => exact ⟨0, Nat.zero_le _, rfl, X, R, BL⟩
      case round =>
        clear X R BL c1
        rename World => wq
        obtain ⟨q, hq, rfl, X, R, BL⟩ := hrel
        by_cases hl2 : q < D.m k
        · have c2 := (HI.out.keep BL.out).cell q hl2
          obtain ⟨y, hy⟩ : ∃ y, y = D.L k q := ⟨_, rfl⟩
          obtain ⟨x, hx⟩ : ∃ x, x = btT (D.L k) q := ⟨_, rfl⟩
          have c3 : wq.cell? ⟨w.heap.size + 1, k, none⟩ = some (.int .u8 x) := by rw [X.out.cell k hk6, hx]; simp [bxK]
          have c4 := X.out.frz k hk6
          have y1 : 0 ≤ y ∧ y < 2 := by rw [hy]; exact HR2.out q hl2
          have x1 : 0 ≤ x ∧ x < 2 ^ q := by rw [hx]; exact btT_bd (by omega) (fun i hi => HR2.out i (by omega))
          have HX := hidden hx
          have HY := hidden hy
          rw [← hy] at c2
          clear hx hy
          go_wp2_with fail
          go_big_region
          go_wp2
          go_roundw
          case rel => exact ⟨q + 1, by omega, by go_num, hidden (by
            refine Six.keep ?_ (Below.refl _ _).drew
            have h1 := X.out.put hk6 (bits BinOp.or IntKind.u8 x (y * 2 ^ q % 256))
            refine ⟨h1.blk, fun i hi => ?_, h1.frz⟩
            rw [h1.cell i hi, or_bit (by omega) x1 y1]
            by_cases e : i = k
            · subst e; simp [bxK, btT, HX.out, HY.out]
            · simp [bxK, e]), hidden ((R.out.away (p := ⟨w.heap.size + 1, k, none⟩) (by show w.heap.size + 1 ≠ w.heap.size; omega) _).keep (Below.refl _ _).drew), hidden ((BL.out.setCell (p := ⟨w.heap.size + 1, k, none⟩) (Nat.le_succ _) _).trans ((Below.refl _ _).drew))⟩
          case measure => simp [intOf]; omega
        · have e : q = D.m k := by omega
          go_wp2
          go_roundw
          case rel => exact ⟨k + 1, by omega, by go_num, hidden ⟨X.out.blk, fun i hi => by
            rw [X.out.cell i hi]
            by_cases h1 : i < k
            · simp [bxK, h1, show i < k + 1 by omega]
            · by_cases h2 : i = k
              · subst h2; simp [bxK, e]
              · simp [bxK, h1, h2, show ¬ i < k + 1 by omega, btT], X.out.frz⟩, R, BL⟩
          case measure => simp [intOf]; omega
    · obtain rfl : k = n := by omega
      have e1 : ∀ i, i < 6 → wr.cell? ⟨w.heap.size + 1, i, none⟩ = some (.int .u8 (bxT k D i)) := fun i hi => by rw [X.out.cell i hi]; unfold bxK bxT; by_cases h : i < k <;> simp [h, btT]
      have c0 := e1 0 (by omega)
      have c1 := e1 1 (by omega)
      have c2 := e1 2 (by omega)
      have c3 := e1 3 (by omega)
      have c4 := e1 4 (by omega)
      have c5 := e1 5 (by omega)
      have r0 := R.out.cell 0 (by omega)
      have r1 := R.out.cell 1 (by omega)
      have r2 := R.out.cell 2 (by omega)
      have r3 := R.out.cell 3 (by omega)
      have r4 := R.out.cell 4 (by omega)
      have r5 := R.out.cell 5 (by omega)
      have f0 := R.out.frz 0 (by omega)
      have f1 := R.out.frz 1 (by omega)
      have f2 := R.out.frz 2 (by omega)
      have f3 := R.out.frz 3 (by omega)
      have f4 := R.out.frz 4 (by omega)
      have f5 := R.out.frz 5 (by omega)
      clear e1
      go_wp2
      refine bodyPost_ret (v := arr6 (bxT k D)) (by simp [results, Try.results97, go_sem, r0, r1, r2, r3, r4, r5, arr6]) rfl ⟨rfl, ?_⟩
      exact ((((((BL.out.setCell (p := ⟨w.heap.size, 0, none⟩) (Nat.le_refl _) _).setCell (p := ⟨w.heap.size, 1, none⟩) (Nat.le_refl _) _).setCell (p := ⟨w.heap.size, 2, none⟩) (Nat.le_refl _) _).setCell (p := ⟨w.heap.size, 3, none⟩) (Nat.le_refl _) _).setCell (p := ⟨w.heap.size, 4, none⟩) (Nat.le_refl _) _).setCell (p := ⟨w.heap.size, 5, none⟩) (Nat.le_refl _) _)

set_option maxRecDepth 20000 in
set_option maxHeartbeats 3200000 in
theorem worldOf_any (b o n c : Nat) (A : Nat → Int) (z : Int) (D : LsL) (w : World) (h : Mats w b o n D) (ho : AlgOk n A z D) :
    Calls Try.prog 62 #[.agg #[.int .i64 z, .slice (some ⟨b, o, none⟩) n c]] w fun e w' => ∃ v, e = .returned v ∧ WorldV w' n z D v ∧ Below w.heap.size w w' := by
  have hz := ho.z1
  have HO := hidden ho
  have HT := hidden h
  have BX := hidden (alloc_below w (.cells #[.int .i64 z, .slice (some ⟨b, o, none⟩) n c] 35))
  have BO := hidden (show z = 2 → ∀ wd, Below w.heap.size w wd → Calls Try.prog 97 #[.slice (some ⟨b, o, none⟩) n c] wd fun e w' => e = .returned (arr6 (bxT n D)) ∧ Below w.heap.size w w' from fun e wd hd => by
    subst e
    refine (bitsOf_any b o n c A D wd (h.keep hd) ho).mono ?_
    rintro e w' ⟨rfl, h1⟩
    exact ⟨rfl, keepB hd h1⟩)
  clear ho h
  obtain rfl | rfl | rfl : z = 1 ∨ z = 2 ∨ z = 3 := by omega
  · go_enter Try.func62, Try.ntmps62
    go_wp2
    go_ret
    exact ⟨_, rfl, Or.inl ⟨rfl, rfl⟩, BX.out⟩
  · go_enter Try.func62, Try.ntmps62
    go_wp2_with (go_at_call 97; refine (BO.out rfl _ BX.out).mono ?_; rintro e v5 ⟨rfl, b5⟩)
    go_ret
    exact ⟨_, rfl, Or.inr (Or.inl ⟨rfl, rfl⟩), b5⟩
  · go_enter Try.func62, Try.ntmps62
    go_wp2
    go_ret
    exact ⟨_, rfl, Or.inr (Or.inr ⟨rfl, _, _, _, rfl, HT.out.keep BX.out⟩), BX.out⟩

end Go.Proofs.Ytdcngfdklpdpkaa
