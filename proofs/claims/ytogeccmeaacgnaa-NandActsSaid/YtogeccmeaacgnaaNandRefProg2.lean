/-
  Contract: the document's Program, that is an act.
-/
import Derived.Test.YtogeccmeaacgnaaNandRefProg
import Derived.Test.YtogeccmeaacgnaaNandTorn
namespace Go.Proofs.Ytogeccmeaacgnaa
open Go.RowKit
set_option linter.unusedVariables false

theorem SeesV.setCell {w : World} {a : Option Addr} {n p i : Nat} {F : Nat → Value} {v : Value} (h : SeesV w a n F) (hne : ∀ ad, a = Option.some ad → ad.block ≠ p) : SeesV (w.setCell ⟨p, i, Option.none⟩ v) a n F :=
  h.kept fun ad e hl => ⟨by simpa [World.setCell] using hl, Below.heap_setCell _ _ _ _ (hne ad e)⟩
theorem SeesV.setRow {w : World} {a : Option Addr} {n p : Nat} {F : Nat → Value} {cs : Array Value} (h : SeesV w a n F) (hne : ∀ ad, a = Option.some ad → ad.block ≠ p) : SeesV (w.setRow p cs) a n F :=
  h.kept fun ad e hl => ⟨by rw [setRow_size]; exact hl, setRow_other _ _ _ _ (hne ad e)⟩
def laidS (s : ByteArray) (x : Nat) : Nat → Nat := fun j => if j < x then byteL s.data.toList j else 0
def pairC (b : Bool) (s : ByteArray) : Nat → Value := fun j => if j = 0 then .bool b else .string s
theorem pairC_one (b : Bool) (s : ByteArray) (j : Nat) : (pairC b s j).oneCell' = true := by
  unfold pairC
  split <;> rfl
theorem run_index_byte (s : ByteArray) (x : Nat) (h : x < s.size) (w : World) : (Instr.index 9 (.string s) (.int .i64 (x : Int))).run Try.prog w = .ok (.int .u8 ((byteL s.data.toList x : Nat) : Int)) w := by
  rw [run_index_string w 9 s .i64 (x : Int) Try.underlying9, dif_pos ⟨by omega, by omega⟩]
  have hl : x < s.data.toList.length := by simpa using h
  have e : byteL s.data.toList x = (s.data.toList[x]'hl).toNat := by
    unfold byteL
    rw [List.getD_eq_getElem?_getD, List.getElem?_eq_getElem hl]
    rfl
  rw [e]
  show Result.ok (Value.int .u8 (((s[x]'h).toNat : Nat) : Int)) w = _
  congr 3

set_option maxHeartbeats 4000000 in
set_option maxRecDepth 8000 in
theorem refProg_whole (n m : Nat) (S : St) (M : Mem) (w : World) (hc : Hid (RefC w n m S M)) (i j : Nat) (s : ByteArray) (hi : i < n) (hj : j < m) (hn64 : n ≤ 64) (hm16 : m ≤ 16) (hu : S.up = true) (hs : s.size ≤ 256) (hp : isB (S.page i j) = false) (hl : (S.left - 1 != 0) = true) (hh : S.left < 9223372036854775808) (lw : Hid (S.progs ≤ 1000000 ∧ S.hist.length ≤ 1000000)) :
    Calls Try.prog 13 #[.agg (rowOf 139 (refF n m S M)), .int .i64 (i : Nat), .int .i64 (j : Nat), .string s] w (RefEnd n m M (prS (cntP (actS S true (S.left - 1))) i j (pageT s 9223372036854775807 0)) 0 w) := by
  have b1 : Below w.heap.size w ((w.alloc (.cells (rowOf 139 (refF n m S M)) 36)).alloc (.cells (rowOf 139 (refF 0 0 noneS noneM)) 36)) := allocs_below [.cells (rowOf 139 (refF n m S M)) 36, .cells (rowOf 139 (refF 0 0 noneS noneM)) 36] w
  have r1 : Hid (RowAt ((w.alloc (.cells (rowOf 139 (refF n m S M)) 36)).alloc (.cells (rowOf 139 (refF 0 0 noneS noneM)) 36)) w.heap.size 36 (rowOf 139 (refF n m S M))) := allocs_row [.cells (rowOf 139 (refF n m S M)) 36, .cells (rowOf 139 (refF 0 0 noneS noneM)) 36] w 0 _ _ rfl
  have s1 : Hid (RowAt ((w.alloc (.cells (rowOf 139 (refF n m S M)) 36)).alloc (.cells (rowOf 139 (refF 0 0 noneS noneM)) 36)) (w.heap.size + 1) 36 (rowOf 139 (refF 0 0 noneS noneM))) := allocs_row [.cells (rowOf 139 (refF n m S M)) 36, .cells (rowOf 139 (refF 0 0 noneS noneM)) 36] w 1 _ _ rfl
  have c0 := rf0 r1.out
  rw [hu, Bool.not_true] at c0
  have hin : (inB ((i : Nat) : Int) n && inB ((j : Nat) : Int) m) = true := by rw [inB_nat i _ hi, inB_nat j _ hj]; rfl
  have I := Lib.hid (refIn_any n m S M ((w.alloc (.cells (rowOf 139 (refF n m S M)) 36)).alloc (.cells (rowOf 139 (refF 0 0 noneS noneM)) 36)) (i : Int) (j : Int))
  rw [hin] at I
  obtain ⟨r, hr⟩ : ∃ r, r = i * m := ⟨_, rfl⟩
  obtain ⟨q, hq⟩ : ∃ q, q = r + j := ⟨_, rfl⟩
  have hqq : q = i * m + j := by rw [hq, hr]
  have hr6 : r ≤ 1024 := by
    rw [hr]
    exact Nat.le_trans (Nat.mul_le_mul (show i ≤ 64 by omega) hm16) (by decide)
  have er : (i : Int) * (m : Int) = (r : Int) := by rw [hr, Int.natCast_mul]
  have eq : (r : Int) + (j : Int) = (q : Int) := by rw [hq, Int.natCast_add]
  obtain ⟨N, hN⟩ : ∃ N, n * m = N := ⟨_, rfl⟩
  have hqN : q < N := by rw [← hN]; exact place_lt hi hj hqq
  have hqN' := Lib.hid hqN
  have l0 : ¬ (256 : Int) < (s.size : Int) := by omega
  have v0 := cellV_0 (f := S.page) hj hqq
  rw [hp] at v0
  have hl2 := Lib.hid hl
  have hh2 := Lib.hid hh
  have hs' := Lib.hid hs
  have lw' := lw
  have bytes : Hid (Bytes (pageN s 9223372036854775807 0)) := pageN_byte (by decide)
  have hqq' := Lib.hid hqq
  clear hl hh lw hr hq hqq
  go_enter Try.func13, Try.ntmps13
  go_wp2_with (first | (refine wpList_new rfl (run_allocChip rfl _) ?_; generalize (w.alloc (.cells (rowOf 139 (refF n m S M)) 36)).alloc (.cells (rowOf 139 (refF 0 0 noneS noneM)) 36) = w1 at *) | (refine wpList_load_row rfl 36 _ rfl w.heap.size rfl 36 (rowOf 139 (refF n m S M)) (0, 0) _ r1.out Try.underlying36 rfl (infoChip _) ?_))
  refine I.out.mono ?_
  rintro e w2 ⟨rfl, bi⟩
  have r2 := Lib.hid (r1.out.below bi r1.out.lt)
  have s2 := Lib.hid (s1.out.below bi s1.out.lt)
  have b2 := b1.trans (bi.mono b1.size)
  clear I r1 s1 b1 bi c0
  have c5 := rf5 r2.out
  have c71 := rf71 r2.out
  rw [hN] at c71
  have hcl := Lib.hid (hc.out.cells.after b2)
  rw [hN] at hcl
  have hce := SeesV.cell hcl.out (m := q * 2) (by omega)
  rw [v0] at hce
  have rA := Lib.hid (r2.out.alloc (.cells (rowOf 256 (w8 zeroN)) 5))
  have sA := Lib.hid (s2.out.alloc (.cells (rowOf 256 (w8 zeroN)) 5))
  have yA := Lib.hid (RowAt.new w2 5 (rowOf 256 (w8 zeroN)))
  have bA := b2.alloc b2.size (.cells (rowOf 256 (w8 zeroN)) 5)
  have lp : w.heap.size < w2.heap.size := r2.out.lt
  have ls : w.heap.size + 1 < w2.heap.size := s2.out.lt
  clear r2 s2 b2
  go_wp2_with (first | (refine wpList_known rfl (at_cell hcl.out hqN'.out rfl rfl rfl rfl _) ?_) | (refine wpList_make_row (m := 256) Try.underlying65 Try.info5 (zero_bytes (256 * 1)) (by decide) (by decide) (by decide) rfl rfl rfl rfl ?_; rw [Nat.mul_one]))
  generalize w2.alloc (.cells (rowOf 256 (w8 zeroN)) 5) = w3 at *
  clear c5 c71 hcl hce
  generalize w2.heap.size = gb at *
  go_loopw [12] (fun v wr => ∃ x : Nat, x ≤ s.size ∧ v = .int .i64 (x : Int) ∧ Hid (RowAt wr w.heap.size 36 (rowOf 139 (refF n m S M))) ∧ Hid (RowAt wr (w.heap.size + 1) 36 (rowOf 139 (refF 0 0 noneS noneM))) ∧ Hid (RowAt wr gb 5 (rowOf 256 (w8 (laidS s x)))) ∧ Below w.heap.size w wr) (fun v _ => s.size - (intOf v).toNat)
  case atStart => exact ⟨0, Nat.zero_le _, rfl, rA, sA, yA.out.congr (rowOf_congr fun j _ => by unfold w8 laidS zeroN; rw [if_neg (by omega)]), bA⟩
  case round =>
    clear rA sA yA bA
    obtain ⟨x, hx, rfl, rL, sL, yL, bL⟩ := hrel
    by_cases hlt : x < s.size
    · have lt : (x : Int) < (s.size : Int) := by omega
      have x6 : x ≤ 256 := by have := hs'.out; omega
      have xI : (x : Int) < 256 := by have := hs'.out; omega
      have rx : Hid (∀ w', (Instr.index 9 (.string s) (.int .i64 (x : Int))).run Try.prog w' = .ok (.int .u8 ((byteL s.data.toList x : Nat) : Int)) w') := fun w' => run_index_byte s x hlt w'
      have c0 := yL.out.cell x (by omega)
      generalize w8 (laidS s x) x = u at c0
      have f0 := yL.out.free x
      have e3 : Hid ((rowOf 256 (w8 (laidS s x))).setIfInBounds x (.int .u8 ((byteL s.data.toList x : Nat) : Int)) = rowOf 256 (w8 (laidS s (x + 1)))) := by
        unfold Hid
        rw [rowOf_upd8]
        refine rowOf_congr fun j hj2 => ?_
        unfold w8 upd laidS
        congr 2
        by_cases c : j = x
        · subst c
          rw [if_pos rfl, if_pos (by omega)]
        · rw [if_neg c]
          by_cases d : j < x
          · rw [if_pos d, if_pos (by omega)]
          · rw [if_neg d, if_neg (by omega)]
      have yN := Lib.hid ((yL.out.set x (.int .u8 ((byteL s.data.toList x : Nat) : Int))).congr e3.out)
      have rN := Lib.hid (rL.out.other x (.int .u8 ((byteL s.data.toList x : Nat) : Int)) (p := gb) (by omega))
      have sN := Lib.hid (sL.out.other x (.int .u8 ((byteL s.data.toList x : Nat) : Int)) (p := gb) (by omega))
      have bN := bL.setCell (p := ⟨gb, x, none⟩) (show w.heap.size ≤ gb by omega) (.int .u8 ((byteL s.data.toList x : Nat) : Int))
      generalize byteL s.data.toList x = bx at *
      clear rL sL yL bL e3 hlt
      go_wp2_with (refine wpList_known rfl (run_index_op rx.out rfl rfl rfl _) ?_)
      go_roundw
      case rel => exact ⟨x + 1, by omega, by go_num, rN, sN, yN, bN⟩
      case measure => simp [intOf]; omega
    · have lt : ¬ (x : Int) < (s.size : Int) := by omega
      have yM := Lib.hid (yL.out.congr (rowOf_congr (g := w8 (byteL s.data.toList)) fun j _ => by
        unfold w8 laidS
        congr 2
        by_cases d : j < x
        · rw [if_pos d]
        · rw [if_neg d, byteL_end _ _ (by have : s.data.toList.length = s.size := by simp
                                          omega)]))
      clear yL hlt hx
      have A := Lib.hid (refA_act S wr hu hh2.out true hl2.out)
      go_wp2_with (first | (refine wpList_load_at rfl 30 _ rfl w.heap.size 0 rfl 36 _ _ 4 (pwF S) rL.out (fun j hj => by rw [Nat.zero_add, rowOf_get _ _ _ (by omega)]; unfold refF; rw [if_pos hj]) Try.underlying30 rfl infoPow4 ?_))
      refine A.out.mono ?_
      rintro e w4 ⟨rfl, ba⟩
      obtain ⟨Sa, hSa⟩ : ∃ Sa, actS S true (S.left - 1) = Sa := ⟨_, rfl⟩
      rw [hSa]
      have rp := Lib.hid (fun (M : Mem) => ref_act n m S M true (S.left - 1))
      rw [hSa] at rp
      have r4 := Lib.hid (rL.out.below ba rL.out.lt)
      have s4 := Lib.hid (sL.out.below ba sL.out.lt)
      have y4 := Lib.hid (yM.out.below ba yM.out.lt)
      have b4 := bL.trans (ba.mono bL.size)
      have lp4 : w.heap.size < w4.heap.size := r4.out.lt
      have ls4 : w.heap.size + 1 < w4.heap.size := s4.out.lt
      have ly4 : gb < w4.heap.size := y4.out.lt
      clear A rL sL yM bL ba
      have rA := Lib.hid (r4.out.alloc (.cells (rowOf 4 (pwF noneS)) 30))
      have sA := Lib.hid (s4.out.alloc (.cells (rowOf 4 (pwF noneS)) 30))
      have yA := Lib.hid (y4.out.alloc (.cells (rowOf 4 (pwF noneS)) 30))
      have qA := Lib.hid (RowAt.new w4 30 (rowOf 4 (pwF noneS)))
      have bA := b4.alloc b4.size (.cells (rowOf 4 (pwF noneS)) 30)
      have rB := Lib.hid (rA.out.setRowOther w4.heap.size (rowOf 4 (pwF Sa)) (by omega))
      have sB := Lib.hid (sA.out.setRowOther w4.heap.size (rowOf 4 (pwF Sa)) (by omega))
      have yB := Lib.hid (yA.out.setRowOther w4.heap.size (rowOf 4 (pwF Sa)) (by omega))
      have qB := Lib.hid (qA.out.setRow (rowOf 4 (pwF Sa)))
      have bB := below_setRow' bA (show w.heap.size ≤ w4.heap.size by omega) (rowOf 4 (pwF Sa))
      have rC := Lib.hid (rB.out.setRow (rowOf 139 (laidV (refF n m S M) (pwF Sa) 0 4)))
      have sC := Lib.hid (sB.out.setRowOther w.heap.size (rowOf 139 (laidV (refF n m S M) (pwF Sa) 0 4)) (by omega))
      have yC := Lib.hid (yB.out.setRowOther w.heap.size (rowOf 139 (laidV (refF n m S M) (pwF Sa) 0 4)) (by omega))
      have qC := Lib.hid (qB.out.setRowOther w.heap.size (rowOf 139 (laidV (refF n m S M) (pwF Sa) 0 4)) (by omega))
      have bC := below_setRow' bB (Nat.le_refl w.heap.size) (rowOf 139 (laidV (refF n m S M) (pwF Sa) 0 4))
      rw [rp.out M] at rC sC yC qC bC
      clear r4 s4 y4 b4
      go_wp2_with (first | (refine wpList_new rfl (run_allocPow rfl _) ?_; generalize w4.alloc (.cells (rowOf 4 (pwF noneS)) 30) = w5 at *) | (refine wpList_store_row rfl 30 _ _ rfl w4.heap.size (rowOf 4 (pwF Sa)) rfl rfl 30 (rowOf 4 (pwF noneS)) qA.out (infoPow _) (by rw [rowOf_size, rowOf_size]) (pwF_all _) ?_; generalize w5.setRow w4.heap.size (rowOf 4 (pwF Sa)) = w6 at *) | (refine wpList_load_row rfl 30 _ rfl w4.heap.size rfl 30 (rowOf 4 (pwF Sa)) (0, 0) _ qB.out Try.underlying30 rfl (infoPow _) ?_) | (refine wpList_store_at rfl 30 _ _ rfl w.heap.size 0 139 4 (refF n m S M) (pwF Sa) rfl rfl 36 rB.out infoPow4 (pwF_all _) (by decide) ?_; rw [rp.out M]; refine Hid.out ?_))
      unfold Hid
      clear rA sA yA qA bA rB sB yB qB bB rp
      generalize w6.setRow w.heap.size (rowOf 139 (refF n m Sa M)) = w7 at *
      have aF : Hid (Sa.page = S.page ∧ Sa.hist = S.hist ∧ Sa.keep = S.keep ∧ Sa.junk = S.junk ∧ Sa.progs = S.progs) := by subst hSa; exact ⟨rfl, rfl, rfl, rfl, rfl⟩
      have lq7 : w4.heap.size < w7.heap.size := qC.out.lt
      have hN6 : Hid (N ≤ 1024) := by
        unfold Hid
        rw [← hN]
        exact Nat.le_trans (Nat.mul_le_mul hn64 hm16) (by decide)
      clear lt
      have yT := Lib.hid (yC.out.congr (rowOf_congr (g := w8 (pageN s 9223372036854775807 0)) fun x hx2 => by unfold w8 pageN; rw [if_pos (by omega)]))
      have rT := rC
      have sT := sC
      have bT := bC
      clear rC sC yC qC bC
      have cv : Hid (∀ w' : World, RowAt w' gb 5 (rowOf 256 (w8 (pageN s 9223372036854775807 0))) → (convert 65 9 (.slice (some ⟨gb, 0, none⟩) 256 256)).run Try.prog w' = .ok (.string (pageT s 9223372036854775807 0)) w') := fun w' h => block_string bytes.out Try.underlying65 Try.underlying5 Try.underlying9 h
      have isT := Lib.hid (isB_page s 9223372036854775807 0)
      clear bytes
      obtain ⟨T, hT⟩ : ∃ T, pageT s 9223372036854775807 0 = T := ⟨_, rfl⟩
      rw [hT] at cv isT
      replace hT := Lib.hid hT
      have c71 := rf71 rT.out
      rw [hN] at c71
      have lpT : w.heap.size < w7.heap.size := rT.out.lt
      have lsT : w.heap.size + 1 < w7.heap.size := sT.out.lt
      have lyT : gb < w7.heap.size := yT.out.lt
      have rD := Lib.hid (rT.out.alloc (.cells #[] 94))
      have sD := Lib.hid (sT.out.alloc (.cells #[] 94))
      have yD := Lib.hid (yT.out.alloc (.cells #[] 94))
      have bD := bT.alloc bT.size (.cells #[] 94)
      have cD := rf71 rD.out
      rw [hN] at cD
      have hF := Lib.hid (hc.out.cells.after bD)
      rw [hN] at hF
      have own0 : Hid ((w7.alloc (.cells #[] 94)).ownsRow w7.heap.size 94 2 (.slice (some ⟨w7.heap.size, 0, none⟩) 0 0) 0 []) := World.ownsRow_made w7 #[] 0 (Nat.le_refl _) (by decide) rfl
      have szD : w7.heap.size ≤ (w7.alloc (.cells #[] 94)).heap.size := by simp
      have hN66 : N ≤ 1000000 := by have := hN6.out; omega
      have hN0 : Hid (0 < N) := by unfold Hid; omega
      clear rT sT yT bT
      go_wp2_with (first | (refine wpList_append_K Try.underlying32 infoCell rfl (by decide) (by decide) rfl _ _ rfl w7.heap.size _ 0 [] rfl own0.out szD M.al N M.cl rfl (cellV m S.page) hF.out (cellV_one m S.page) (by decide) hN66 hN0.out ?_; intro v8 w8' h8 b8; refine Hid.out ?_))
      unfold Hid
      have h9 := h8.out
      rw [List.nil_append, Nat.zero_add] at h9
      obtain ⟨g, cap, G, rfl, rg, hG, hgb, hcap, hmx⟩ := own_rowOf h9 hN0.out
      have hGG : Hid (∀ x, x < N * 2 → G x = cellV m S.page x) := fun x hx => by
        have h1 := hG x hx
        rw [cellL_get _ _ _ hx] at h1
        exact (Option.some.inj h1).symm
      have r8 := Lib.hid (rD.out.below b8.out (by omega))
      have s8 := Lib.hid (sD.out.below b8.out (by omega))
      have y8 := Lib.hid (yD.out.below b8.out (by omega))
      have b9 := bD.trans (b8.out.mono (by omega))
      have gp : g ≠ w.heap.size := by omega
      have gs : g ≠ w.heap.size + 1 := by omega
      have gy : gb ≠ g := by omega
      clear h8 h9 hG b8 own0 hF rD sD yD bD cD szD c71
      obtain ⟨Sp, hSp⟩ : ∃ Sp : St, Sp = { Sa with page := updP S.page i (updS (S.page i) j T) } := ⟨_, rfl⟩
      have rE := Lib.hid ((r8.out.set 71 (.slice (some ⟨g, 0, none⟩) (n * m) cap)).congr (ref_set (ref_L n m Sa M g cap (updP S.page i (updS (S.page i) j T)))))
      have sE := Lib.hid (s8.out.other 71 (.slice (some ⟨g, 0, none⟩) (n * m) cap) (p := w.heap.size) (by omega))
      have yE := Lib.hid (y8.out.other 71 (.slice (some ⟨g, 0, none⟩) (n * m) cap) (p := w.heap.size) (by omega))
      have gE := Lib.hid (rg.other 71 (.slice (some ⟨g, 0, none⟩) (n * m) cap) (p := w.heap.size) gp)
      have bE := b9.setCell (p := ⟨w.heap.size, 71, none⟩) (Nat.le_refl _) (.slice (some ⟨g, 0, none⟩) (n * m) cap)
      obtain ⟨M1, hM1⟩ : ∃ M1 : Mem, M1 = { M with al := some ⟨g, 0, none⟩, cl := cap } := ⟨_, rfl⟩
      rw [← hM1, ← hSp] at rE
      rw [hN] at rE sE yE gE bE
      have c8 := rf71 r8.out
      have f8 := r8.out.free 71
      have hal : Hid (M1.al = some ⟨g, 0, none⟩ ∧ M1.cl = cap ∧ M1.ap = M.ap ∧ M1.cp = M.cp) := by subst hM1; exact ⟨rfl, rfl, rfl, rfl⟩
      have pF : Hid (Sp.page = updP S.page i (updS (S.page i) j T) ∧ Sp.hist = S.hist ∧ Sp.progs = S.progs) := by subst hSp; exact ⟨rfl, aF.out.2.1, aF.out.2.2.2.2⟩
      clear r8 s8 y8 rg b9 hM1
      have gN := Lib.hid (gE.out.setRow (rowOf (cap * 2) (laidV G (pairC true T) (q * 2) 2)))
      have rN := Lib.hid (rE.out.setRowOther g (rowOf (cap * 2) (laidV G (pairC true T) (q * 2) 2)) (Ne.symm gp))
      have sN := Lib.hid (sE.out.setRowOther g (rowOf (cap * 2) (laidV G (pairC true T) (q * 2) 2)) (Ne.symm gs))
      have yN := Lib.hid (yE.out.setRowOther g (rowOf (cap * 2) (laidV G (pairC true T) (q * 2) 2)) gy)
      have bN := below_setRow' bE (show w.heap.size ≤ g by omega) (rowOf (cap * 2) (laidV G (pairC true T) (q * 2) 2))
      have hGN : Hid (∀ x, x < N * 2 → laidV G (pairC true T) (q * 2) 2 x = cellV m Sp.page x) := cell_lay (s := T) (b := true) hj hqq'.out hGG.out isT.out (fun a y hy => by
        rw [pF.out.1]
        unfold updP updS
        by_cases c : a = i
        · rw [if_pos c]
          by_cases d : y = j
          · rw [if_pos d, if_pos (show a = i ∧ y = j from ⟨c, d⟩)]
          · rw [if_neg d, if_neg (show ¬ (a = i ∧ y = j) from fun h => d h.2), c]
        · rw [if_neg c, if_neg (show ¬ (a = i ∧ y = j) from fun h => c h.1)]) rfl rfl
      have hle : q * 2 + 2 ≤ cap * 2 := by omega
      have hqI : (q : Int) < (N : Int) := by omega
      have c9 := rf71 rE.out
      rw [hal.out.1, hal.out.2.1, hN] at c9
      have cvE := cv.out _ yE.out
      have eQ : Hid (prS (cntP (actS S true (S.left - 1))) i j (pageT s 9223372036854775807 0) = { { Sp with hist := S.hist ++ [T] } with progs := S.progs + 1 }) := by
        unfold Hid
        rw [hT.out]
        subst hSp
        subst hSa
        rfl
      clear hSp
      go_wp2_with (first | (refine wpList_buildTo rfl 94 _ rfl _ rfl (rowOf 2 (pairC true T)) (by kernel_rfl) ?_) | (refine wpList_store_at rfl 94 _ _ rfl g (q * 2) (cap * 2) 2 G (pairC true T) rfl rfl 94 gE.out sz_cell (rowOf_one (pairC_one _ _)) hle ?_; generalize World.setRow _ g (rowOf (cap * 2) (laidV G (pairC true T) (q * 2) 2)) = w10 at *; refine Hid.out ?_))
      unfold Hid
      clear rE sE yE gE bE c8 f8 c9 cvE hGG
      have lp10 : w.heap.size < w10.heap.size := rN.out.lt
      have ls10 : w.heap.size + 1 < w10.heap.size := sN.out.lt
      have lg10 : g < w10.heap.size := gN.out.lt
      have hpast := Lib.hid (hc.out.past.after bN)
      change Hid (SeesV w10 M.ap S.hist.length (strV (fun x => S.hist.getD x ⟨#[]⟩))) at hpast
      have c136 : ∀ w', Below w10.heap.size w10 w' → w'.cell? ⟨w.heap.size, 136, none⟩ = some (.slice M.ap S.hist.length M.cp) := fun w' hb => by
        have h9 := rf136 (rN.out.below hb rN.out.lt)
        rw [hal.out.2.2.1, hal.out.2.2.2, pF.out.2.1] at h9
        exact h9
      have cvc : ∀ w', Below w10.heap.size w10 w' → (convert 65 9 (.slice (some ⟨gb, 0, none⟩) 256 256)).run Try.prog w' = .ok (.string T) w' := fun w' hb => cv.out w' (yN.out.below hb yN.out.lt)
      have hk6 : S.hist.length ≤ 1000000 := lw'.out.2
      replace c136 := Lib.hid c136
      replace cvc := Lib.hid cvc
      go_wp2_with fail
      refine wp_region_head 9 (fun w' => Below w10.heap.size w10 w') [emptys w10.heap.size, eqv (.pointer (some ⟨w.heap.size, 136, none⟩)), eqv (.slice M.ap S.hist.length M.cp), owns w10.heap.size S.hist.length (fun x => S.hist.getD x ⟨#[]⟩), eqv (.slice (some ⟨gb, 0, none⟩) 256 256), eqv (.string T), ones T, owns w10.heap.size (S.hist.length + 1) (snocS (fun x => S.hist.getD x ⟨#[]⟩) S.hist.length T), eqv (.pointer (some ⟨w.heap.size, 136, none⟩))] (KeptS w10.heap.size S.hist.length (fun x => S.hist.getD x ⟨#[]⟩) T) (by kernel_rfl) (by kernel_rfl) ((Below.refl _ _).drew) (.cons kept_emptys (.cons (kept_eqv _) (.cons (kept_eqv _) (.cons kept_owns (.cons (kept_eqv _) (.cons (kept_eqv _) (.cons kept_ones (.cons kept_owns1 (.cons (kept_eqv _) .nil))))))))) ?_
      intro R hR
      simp only [List.take_succ_cons, List.take_zero, List.drop_succ_cons, List.drop_zero]
      refine wpRely_cons (fun w' hC hf => ?_) (fun v0 => ?_)
      · skip
        exact grows_emptys hR hC rfl (by rfl) (by go_simp)
      simp only [Act.put, List.setIfInBounds_toArray, List.set_cons_succ, List.set_cons_zero, List.nil_append]
      refine wpRely_cons (fun w' hC hf => ?_) (fun v1 => ?_)
      · (repeat (first | (obtain ⟨rfl, hf⟩ := hf) | (obtain ⟨_, hf⟩ := hf)))
        have c9 := c136.out _ hC; have cx := cvc.out _ hC; exact grows_eqv (by rfl) hC (by go_simp)
      simp only [Act.put, List.setIfInBounds_toArray, List.set_cons_succ, List.set_cons_zero, List.nil_append, List.cons_append]
      refine wpRely_cons (fun w' hC hf => ?_) (fun v2 => ?_)
      · (repeat (first | (obtain ⟨rfl, hf⟩ := hf) | (obtain ⟨_, hf⟩ := hf)))
        have c9 := c136.out _ hC; have cx := cvc.out _ hC; exact grows_eqv (by rfl) hC (by go_simp)
      simp only [Act.put, List.setIfInBounds_toArray, List.set_cons_succ, List.set_cons_zero, List.nil_append, List.cons_append]
      refine wpRely_cons (fun w' hC hf => ?_) (fun v3 => ?_)
      · obtain ⟨he, rfl, _⟩ := hf
        exact grows_app1 hR hC rfl (by rfl) rfl rfl he rfl hpast.out hc.out.nil hk6
      simp only [Act.put, List.setIfInBounds_toArray, List.set_cons_succ, List.set_cons_zero, List.nil_append, List.cons_append]
      refine wpRely_cons (fun w' hC hf => ?_) (fun v4 => ?_)
      · (repeat (first | (obtain ⟨rfl, hf⟩ := hf) | (obtain ⟨_, hf⟩ := hf)))
        have c9 := c136.out _ hC; have cx := cvc.out _ hC; exact grows_eqv (by rfl) hC (by go_simp)
      simp only [Act.put, List.setIfInBounds_toArray, List.set_cons_succ, List.set_cons_zero, List.nil_append, List.cons_append]
      refine wpRely_cons (fun w' hC hf => ?_) (fun v5 => ?_)
      · (repeat (first | (obtain ⟨rfl, hf⟩ := hf) | (obtain ⟨_, hf⟩ := hf)))
        have c9 := c136.out _ hC; have cx := cvc.out _ hC; exact grows_eqv (by rfl) hC (by go_simp)
      simp only [Act.put, List.setIfInBounds_toArray, List.set_cons_succ, List.set_cons_zero, List.nil_append, List.cons_append]
      refine wpRely_cons (fun w' hC hf => ?_) (fun v6 => ?_)
      · (repeat (first | (obtain ⟨rfl, hf⟩ := hf) | (obtain ⟨_, hf⟩ := hf)))
        exact grows_ones hR hC (by rfl) (by go_simp)
      simp only [Act.put, List.setIfInBounds_toArray, List.set_cons_succ, List.set_cons_zero, List.nil_append, List.cons_append]
      refine wpRely_cons (fun w' hC hf => ?_) (fun v7 => ?_)
      · obtain ⟨h3, h6, _⟩ := hf
        exact grows_app2 hR hC rfl (by rfl) rfl rfl h3 rfl h6 hk6
      simp only [Act.put, List.setIfInBounds_toArray, List.set_cons_succ, List.set_cons_zero, List.nil_append, List.cons_append]
      refine wpRely_cons (fun w' hC hf => ?_) (fun v8 => ?_)
      · (repeat (first | (obtain ⟨rfl, hf⟩ := hf) | (obtain ⟨_, hf⟩ := hf)))
        have c9 := c136.out _ hC; have cx := cvc.out _ hC; exact grows_eqv (by rfl) hC (by go_simp)
      simp only [Act.put, List.setIfInBounds_toArray, List.set_cons_succ, List.set_cons_zero, List.nil_append, List.cons_append]
      refine wpRely_nil fun w11 hC hf => ?_
      obtain ⟨_, _, _, _, _, _, _, o7, rfl, _⟩ := hf
      obtain ⟨a7, c7, rfl, s7, hc7, hm7, ha7⟩ := own_seesV o7 (F := strV (snocS (fun x => S.hist.getD x ⟨#[]⟩) S.hist.length T)) (fun x hx => cellL_get _ _ x (by omega))
      rw [Nat.mul_one] at s7
      have el : (S.hist ++ [T]).length = S.hist.length + 1 := by simp
      have sP7 : SeesV w11 a7 (S.hist ++ [T]).length (lstS (S.hist ++ [T])) := by
        rw [el]
        refine s7.congr fun x hx => ?_
        unfold strV snocS lstS
        by_cases c : x = S.hist.length
        · rw [if_pos c, c, List.getD_eq_getElem?_getD, List.getElem?_append_right (Nat.le_refl _)]
          simp
        · rw [if_neg c]
          show Value.string (S.hist.getD x ⟨#[]⟩) = Value.string ((S.hist ++ [T]).getD x ⟨#[]⟩)
          rw [List.getD_eq_getElem?_getD, List.getD_eq_getElem?_getD, List.getElem?_append_left (by omega)]
      have hne7 : ∀ ad, a7 = some ad → ad.block ≠ w.heap.size ∧ ad.block ≠ w.heap.size + 1 := fun ad e => by
        have := (ha7 ad e).1
        omega
      have nil7 : a7 = none → c7 = 0 := fun e => by
        obtain ⟨ad, e2, _⟩ := s7.some (Nat.succ_pos _)
        rw [e] at e2
        cases e2
      have rP := rN.out.below hC rN.out.lt
      have sP := sN.out.below hC sN.out.lt
      have gP := gN.out.below hC gN.out.lt
      have bP := bN.trans (hC.mono bN.size)
      have c9 := c136.out _ hC
      have f9 := rP.free 136
      obtain ⟨M2, hM2⟩ : ∃ M2 : Mem, M2 = { M1 with ap := a7, cp := c7 } := ⟨_, rfl⟩
      obtain ⟨Sq, hSq⟩ : ∃ Sq : St, Sq = { Sp with hist := S.hist ++ [T] } := ⟨_, rfl⟩
      obtain ⟨S9, hS9⟩ : ∃ S9 : St, S9 = { Sq with progs := Sq.progs + 1 } := ⟨_, rfl⟩
      have rQ := (rP.set 136 (.slice a7 (S.hist ++ [T]).length c7)).congr (ref_set (ref_P n m Sp M1 a7 c7 (S.hist ++ [T])))
      rw [← hM2, ← hSq, el] at rQ
      replace rQ := Lib.hid rQ
      have sQ := Lib.hid (sP.other 136 (.slice a7 (S.hist.length + 1) c7) (p := w.heap.size) (by omega))
      have gQ := Lib.hid (gP.other 136 (.slice a7 (S.hist.length + 1) c7) (p := w.heap.size) gp)
      have bQ := bP.setCell (p := ⟨w.heap.size, 136, none⟩) (Nat.le_refl _) (.slice a7 (S.hist.length + 1) c7)
      have uQ := Lib.hid (sP7.setCell (p := w.heap.size) (i := 136) (v := .slice a7 (S.hist.length + 1) c7) fun ad e => (hne7 ad e).1)
      have eP : Sq.progs = S.progs := by rw [hSq]; exact pF.out.2.2
      have hp6 : S.progs ≤ 1000000 := lw'.out.1
      have cpr := rf137 rQ.out
      have fpr := rQ.out.free 137
      rw [eP] at cpr
      have rR := (rQ.out.set 137 (.int .i64 ((Sq.progs + 1 : Nat) : Int))).congr (ref_set (ref_prg n m Sq M2))
      rw [← hS9, eP, show ((S.progs + 1 : Nat) : Int) = ((S.progs : Nat) : Int) + 1 by omega] at rR
      replace rR := Lib.hid rR
      have sR := Lib.hid (sQ.out.other 137 (.int .i64 (((S.progs : Nat) : Int) + 1)) (p := w.heap.size) (by omega))
      have gR := Lib.hid (gQ.out.other 137 (.int .i64 (((S.progs : Nat) : Int) + 1)) (p := w.heap.size) gp)
      have bR := bQ.setCell (p := ⟨w.heap.size, 137, none⟩) (Nat.le_refl _) (.int .i64 (((S.progs : Nat) : Int) + 1))
      have uR := Lib.hid (uQ.out.setCell (p := w.heap.size) (i := 137) (v := .int .i64 (((S.progs : Nat) : Int) + 1)) fun ad e => (hne7 ad e).1)
      have hP9 : Hid (S9.page = Sp.page ∧ S9.hist = S.hist ++ [T]) := by subst hS9; subst hSq; exact ⟨rfl, rfl⟩
      have hM9 : Hid (M2.al = some ⟨g, 0, none⟩ ∧ M2.ap = a7 ∧ M2.cp = c7) := by subst hM2; exact ⟨hal.out.1, rfl, rfl⟩
      have eQ9 : Hid (prS (cntP (actS S true (S.left - 1))) i j (pageT s 9223372036854775807 0) = S9) := by
        unfold Hid
        rw [eQ.out]
        subst hS9
        subst hSq
        show ({ { Sp with hist := S.hist ++ [T] } with progs := S.progs + 1 } : St) = { { Sp with hist := S.hist ++ [T] } with progs := Sp.progs + 1 }
        rw [pF.out.2.2]
      replace ha7 := Lib.hid ha7
      replace hne7 := Lib.hid hne7
      replace nil7 := Lib.hid nil7
      clear hM2 hSq hS9 eP el s7 sP7 rP sP gP bP o7 hc7 hm7 rN sN gN yN hSa
      go_wp2_with (first | (refine wpList_load_row rfl 36 _ rfl w.heap.size rfl 36 (rowOf 139 (refF n m S9 M2)) (0, 0) _ rR.out Try.underlying36 rfl (infoChip _) ?_) | (refine wpList_store_row rfl 36 _ _ rfl (w.heap.size + 1) (rowOf 139 (refF n m S9 M2)) rfl rfl 36 (rowOf 139 (refF 0 0 noneS noneM)) sR.out (infoChip _) (by rw [rowOf_size, rowOf_size]) (refF_all _ _ _ _) ?_))
      have gY := gR.out.setRowOther (w.heap.size + 1) (rowOf 139 (refF n m S9 M2)) gs
      have uY := uR.out.setRow (p := w.heap.size + 1) (cs := rowOf 139 (refF n m S9 M2)) fun ad e => (hne7.out ad e).2
      refine bodyPost_ret (v := .tuple #[.agg (rowOf 139 (refF n m S9 M2)), .int .i64 0]) ?_ rfl ⟨M2, by rw [eQ9.out], by rw [eQ9.out]; exact ⟨by rw [hM9.out.1]; exact RowAt.seesV gY (by omega) (by rw [hN, hP9.out.1]; exact hGN.out), by rw [hM9.out.2.1, hP9.out.2]; exact uY, by rw [hM9.out.2.1, hM9.out.2.2]; exact nil7.out⟩, below_setRow' bR (Nat.le_succ _) _, fun ad e => by rw [hM9.out.1] at e; cases e; exact .inr ⟨by show w.heap.size ≤ g; omega, gY.lt⟩, fun ad e => by rw [hM9.out.2.1] at e; exact .inr ⟨by have := (ha7.out ad e).1; omega, by obtain ⟨ad2, e3, hl3⟩ := SeesV.some uY (show 0 < (S.hist ++ [T]).length by simp); rw [e] at e3; cases e3; exact hl3⟩⟩
      exact results_row_one Try.results13 _ _ (w.heap.size + 1) 36 (rowOf 139 (refF n m S9 M2)) (0, 0) _ rfl (sR.out.setRow _) Try.underlying36 rfl (infoChip _)

set_option maxHeartbeats 4000000 in
set_option maxRecDepth 8000 in
theorem refProg_part (n m : Nat) (S : St) (M : Mem) (w : World) (hc : Hid (RefC w n m S M)) (i j : Nat) (s : ByteArray) (hi : i < n) (hj : j < m) (hn64 : n ≤ 64) (hm16 : m ≤ 16) (hu : S.up = true) (hs : s.size ≤ 256) (hp : isB (S.page i j) = false) (hl : (S.left - 1 != 0) = false) (hh : S.left < 9223372036854775808) (lw : Hid (S.progs ≤ 1000000 ∧ S.hist.length ≤ 1000000)) (hjk : Hid (S.junk < 256 ∧ (S.keep : Int) < 9223372036854775808)) :
    Calls Try.prog 13 #[.agg (rowOf 139 (refF n m S M)), .int .i64 (i : Nat), .int .i64 (j : Nat), .string s] w (RefEnd n m M (prS (cntP (actS S false (S.left - 1))) i j (pageT s S.keep S.junk)) 4 w) := by
  have b1 : Below w.heap.size w ((w.alloc (.cells (rowOf 139 (refF n m S M)) 36)).alloc (.cells (rowOf 139 (refF 0 0 noneS noneM)) 36)) := allocs_below [.cells (rowOf 139 (refF n m S M)) 36, .cells (rowOf 139 (refF 0 0 noneS noneM)) 36] w
  have r1 : Hid (RowAt ((w.alloc (.cells (rowOf 139 (refF n m S M)) 36)).alloc (.cells (rowOf 139 (refF 0 0 noneS noneM)) 36)) w.heap.size 36 (rowOf 139 (refF n m S M))) := allocs_row [.cells (rowOf 139 (refF n m S M)) 36, .cells (rowOf 139 (refF 0 0 noneS noneM)) 36] w 0 _ _ rfl
  have s1 : Hid (RowAt ((w.alloc (.cells (rowOf 139 (refF n m S M)) 36)).alloc (.cells (rowOf 139 (refF 0 0 noneS noneM)) 36)) (w.heap.size + 1) 36 (rowOf 139 (refF 0 0 noneS noneM))) := allocs_row [.cells (rowOf 139 (refF n m S M)) 36, .cells (rowOf 139 (refF 0 0 noneS noneM)) 36] w 1 _ _ rfl
  have c0 := rf0 r1.out
  rw [hu, Bool.not_true] at c0
  have hin : (inB ((i : Nat) : Int) n && inB ((j : Nat) : Int) m) = true := by rw [inB_nat i _ hi, inB_nat j _ hj]; rfl
  have I := Lib.hid (refIn_any n m S M ((w.alloc (.cells (rowOf 139 (refF n m S M)) 36)).alloc (.cells (rowOf 139 (refF 0 0 noneS noneM)) 36)) (i : Int) (j : Int))
  rw [hin] at I
  obtain ⟨r, hr⟩ : ∃ r, r = i * m := ⟨_, rfl⟩
  obtain ⟨q, hq⟩ : ∃ q, q = r + j := ⟨_, rfl⟩
  have hqq : q = i * m + j := by rw [hq, hr]
  have hr6 : r ≤ 1024 := by
    rw [hr]
    exact Nat.le_trans (Nat.mul_le_mul (show i ≤ 64 by omega) hm16) (by decide)
  have er : (i : Int) * (m : Int) = (r : Int) := by rw [hr, Int.natCast_mul]
  have eq : (r : Int) + (j : Int) = (q : Int) := by rw [hq, Int.natCast_add]
  obtain ⟨N, hN⟩ : ∃ N, n * m = N := ⟨_, rfl⟩
  have hqN : q < N := by rw [← hN]; exact place_lt hi hj hqq
  have hqN' := Lib.hid hqN
  have l0 : ¬ (256 : Int) < (s.size : Int) := by omega
  have v0 := cellV_0 (f := S.page) hj hqq
  rw [hp] at v0
  have hl2 := Lib.hid hl
  have hh2 := Lib.hid hh
  have hs' := Lib.hid hs
  have lw' := lw
  have bytes : Hid (Bytes (pageN s S.keep S.junk)) := pageN_byte hjk.out.1
  have hqq' := Lib.hid hqq
  clear hl hh lw hr hq hqq
  go_enter Try.func13, Try.ntmps13
  go_wp2_with (first | (refine wpList_new rfl (run_allocChip rfl _) ?_; generalize (w.alloc (.cells (rowOf 139 (refF n m S M)) 36)).alloc (.cells (rowOf 139 (refF 0 0 noneS noneM)) 36) = w1 at *) | (refine wpList_load_row rfl 36 _ rfl w.heap.size rfl 36 (rowOf 139 (refF n m S M)) (0, 0) _ r1.out Try.underlying36 rfl (infoChip _) ?_))
  refine I.out.mono ?_
  rintro e w2 ⟨rfl, bi⟩
  have r2 := Lib.hid (r1.out.below bi r1.out.lt)
  have s2 := Lib.hid (s1.out.below bi s1.out.lt)
  have b2 := b1.trans (bi.mono b1.size)
  clear I r1 s1 b1 bi c0
  have c5 := rf5 r2.out
  have c71 := rf71 r2.out
  rw [hN] at c71
  have hcl := Lib.hid (hc.out.cells.after b2)
  rw [hN] at hcl
  have hce := SeesV.cell hcl.out (m := q * 2) (by omega)
  rw [v0] at hce
  have rA := Lib.hid (r2.out.alloc (.cells (rowOf 256 (w8 zeroN)) 5))
  have sA := Lib.hid (s2.out.alloc (.cells (rowOf 256 (w8 zeroN)) 5))
  have yA := Lib.hid (RowAt.new w2 5 (rowOf 256 (w8 zeroN)))
  have bA := b2.alloc b2.size (.cells (rowOf 256 (w8 zeroN)) 5)
  have lp : w.heap.size < w2.heap.size := r2.out.lt
  have ls : w.heap.size + 1 < w2.heap.size := s2.out.lt
  clear r2 s2 b2
  go_wp2_with (first | (refine wpList_known rfl (at_cell hcl.out hqN'.out rfl rfl rfl rfl _) ?_) | (refine wpList_make_row (m := 256) Try.underlying65 Try.info5 (zero_bytes (256 * 1)) (by decide) (by decide) (by decide) rfl rfl rfl rfl ?_; rw [Nat.mul_one]))
  generalize w2.alloc (.cells (rowOf 256 (w8 zeroN)) 5) = w3 at *
  clear c5 c71 hcl hce
  generalize w2.heap.size = gb at *
  go_loopw [12] (fun v wr => ∃ x : Nat, x ≤ s.size ∧ v = .int .i64 (x : Int) ∧ Hid (RowAt wr w.heap.size 36 (rowOf 139 (refF n m S M))) ∧ Hid (RowAt wr (w.heap.size + 1) 36 (rowOf 139 (refF 0 0 noneS noneM))) ∧ Hid (RowAt wr gb 5 (rowOf 256 (w8 (laidS s x)))) ∧ Below w.heap.size w wr) (fun v _ => s.size - (intOf v).toNat)
  case atStart => exact ⟨0, Nat.zero_le _, rfl, rA, sA, yA.out.congr (rowOf_congr fun j _ => by unfold w8 laidS zeroN; rw [if_neg (by omega)]), bA⟩
  case round =>
    clear rA sA yA bA
    obtain ⟨x, hx, rfl, rL, sL, yL, bL⟩ := hrel
    by_cases hlt : x < s.size
    · have lt : (x : Int) < (s.size : Int) := by omega
      have x6 : x ≤ 256 := by have := hs'.out; omega
      have xI : (x : Int) < 256 := by have := hs'.out; omega
      have rx : Hid (∀ w', (Instr.index 9 (.string s) (.int .i64 (x : Int))).run Try.prog w' = .ok (.int .u8 ((byteL s.data.toList x : Nat) : Int)) w') := fun w' => run_index_byte s x hlt w'
      have c0 := yL.out.cell x (by omega)
      generalize w8 (laidS s x) x = u at c0
      have f0 := yL.out.free x
      have e3 : Hid ((rowOf 256 (w8 (laidS s x))).setIfInBounds x (.int .u8 ((byteL s.data.toList x : Nat) : Int)) = rowOf 256 (w8 (laidS s (x + 1)))) := by
        unfold Hid
        rw [rowOf_upd8]
        refine rowOf_congr fun j hj2 => ?_
        unfold w8 upd laidS
        congr 2
        by_cases c : j = x
        · subst c
          rw [if_pos rfl, if_pos (by omega)]
        · rw [if_neg c]
          by_cases d : j < x
          · rw [if_pos d, if_pos (by omega)]
          · rw [if_neg d, if_neg (by omega)]
      have yN := Lib.hid ((yL.out.set x (.int .u8 ((byteL s.data.toList x : Nat) : Int))).congr e3.out)
      have rN := Lib.hid (rL.out.other x (.int .u8 ((byteL s.data.toList x : Nat) : Int)) (p := gb) (by omega))
      have sN := Lib.hid (sL.out.other x (.int .u8 ((byteL s.data.toList x : Nat) : Int)) (p := gb) (by omega))
      have bN := bL.setCell (p := ⟨gb, x, none⟩) (show w.heap.size ≤ gb by omega) (.int .u8 ((byteL s.data.toList x : Nat) : Int))
      generalize byteL s.data.toList x = bx at *
      clear rL sL yL bL e3 hlt
      go_wp2_with (refine wpList_known rfl (run_index_op rx.out rfl rfl rfl _) ?_)
      go_roundw
      case rel => exact ⟨x + 1, by omega, by go_num, rN, sN, yN, bN⟩
      case measure => simp [intOf]; omega
    · have lt : ¬ (x : Int) < (s.size : Int) := by omega
      have yM := Lib.hid (yL.out.congr (rowOf_congr (g := w8 (byteL s.data.toList)) fun j _ => by
        unfold w8 laidS
        congr 2
        by_cases d : j < x
        · rw [if_pos d]
        · rw [if_neg d, byteL_end _ _ (by have : s.data.toList.length = s.size := by simp
                                          omega)]))
      clear yL hlt hx
      have A := Lib.hid (refA_act S wr hu hh2.out false hl2.out)
      go_wp2_with (first | (refine wpList_load_at rfl 30 _ rfl w.heap.size 0 rfl 36 _ _ 4 (pwF S) rL.out (fun j hj => by rw [Nat.zero_add, rowOf_get _ _ _ (by omega)]; unfold refF; rw [if_pos hj]) Try.underlying30 rfl infoPow4 ?_))
      refine A.out.mono ?_
      rintro e w4 ⟨rfl, ba⟩
      obtain ⟨Sa, hSa⟩ : ∃ Sa, actS S false (S.left - 1) = Sa := ⟨_, rfl⟩
      rw [hSa]
      have rp := Lib.hid (fun (M : Mem) => ref_act n m S M false (S.left - 1))
      rw [hSa] at rp
      have r4 := Lib.hid (rL.out.below ba rL.out.lt)
      have s4 := Lib.hid (sL.out.below ba sL.out.lt)
      have y4 := Lib.hid (yM.out.below ba yM.out.lt)
      have b4 := bL.trans (ba.mono bL.size)
      have lp4 : w.heap.size < w4.heap.size := r4.out.lt
      have ls4 : w.heap.size + 1 < w4.heap.size := s4.out.lt
      have ly4 : gb < w4.heap.size := y4.out.lt
      clear A rL sL yM bL ba
      have rA := Lib.hid (r4.out.alloc (.cells (rowOf 4 (pwF noneS)) 30))
      have sA := Lib.hid (s4.out.alloc (.cells (rowOf 4 (pwF noneS)) 30))
      have yA := Lib.hid (y4.out.alloc (.cells (rowOf 4 (pwF noneS)) 30))
      have qA := Lib.hid (RowAt.new w4 30 (rowOf 4 (pwF noneS)))
      have bA := b4.alloc b4.size (.cells (rowOf 4 (pwF noneS)) 30)
      have rB := Lib.hid (rA.out.setRowOther w4.heap.size (rowOf 4 (pwF Sa)) (by omega))
      have sB := Lib.hid (sA.out.setRowOther w4.heap.size (rowOf 4 (pwF Sa)) (by omega))
      have yB := Lib.hid (yA.out.setRowOther w4.heap.size (rowOf 4 (pwF Sa)) (by omega))
      have qB := Lib.hid (qA.out.setRow (rowOf 4 (pwF Sa)))
      have bB := below_setRow' bA (show w.heap.size ≤ w4.heap.size by omega) (rowOf 4 (pwF Sa))
      have rC := Lib.hid (rB.out.setRow (rowOf 139 (laidV (refF n m S M) (pwF Sa) 0 4)))
      have sC := Lib.hid (sB.out.setRowOther w.heap.size (rowOf 139 (laidV (refF n m S M) (pwF Sa) 0 4)) (by omega))
      have yC := Lib.hid (yB.out.setRowOther w.heap.size (rowOf 139 (laidV (refF n m S M) (pwF Sa) 0 4)) (by omega))
      have qC := Lib.hid (qB.out.setRowOther w.heap.size (rowOf 139 (laidV (refF n m S M) (pwF Sa) 0 4)) (by omega))
      have bC := below_setRow' bB (Nat.le_refl w.heap.size) (rowOf 139 (laidV (refF n m S M) (pwF Sa) 0 4))
      rw [rp.out M] at rC sC yC qC bC
      clear r4 s4 y4 b4
      go_wp2_with (first | (refine wpList_new rfl (run_allocPow rfl _) ?_; generalize w4.alloc (.cells (rowOf 4 (pwF noneS)) 30) = w5 at *) | (refine wpList_store_row rfl 30 _ _ rfl w4.heap.size (rowOf 4 (pwF Sa)) rfl rfl 30 (rowOf 4 (pwF noneS)) qA.out (infoPow _) (by rw [rowOf_size, rowOf_size]) (pwF_all _) ?_; generalize w5.setRow w4.heap.size (rowOf 4 (pwF Sa)) = w6 at *) | (refine wpList_load_row rfl 30 _ rfl w4.heap.size rfl 30 (rowOf 4 (pwF Sa)) (0, 0) _ qB.out Try.underlying30 rfl (infoPow _) ?_) | (refine wpList_store_at rfl 30 _ _ rfl w.heap.size 0 139 4 (refF n m S M) (pwF Sa) rfl rfl 36 rB.out infoPow4 (pwF_all _) (by decide) ?_; rw [rp.out M]; refine Hid.out ?_))
      unfold Hid
      clear rA sA yA qA bA rB sB yB qB bB rp
      generalize w6.setRow w.heap.size (rowOf 139 (refF n m Sa M)) = w7 at *
      have aF : Hid (Sa.page = S.page ∧ Sa.hist = S.hist ∧ Sa.keep = S.keep ∧ Sa.junk = S.junk ∧ Sa.progs = S.progs) := by subst hSa; exact ⟨rfl, rfl, rfl, rfl, rfl⟩
      have lq7 : w4.heap.size < w7.heap.size := qC.out.lt
      have hN6 : Hid (N ≤ 1024) := by
        unfold Hid
        rw [← hN]
        exact Nat.le_trans (Nat.mul_le_mul hn64 hm16) (by decide)
      clear lt
      have k2 := pf2 qC.out
      rw [aF.out.2.2.1] at k2
      obtain ⟨nn, hnn⟩ : ∃ nn : Nat, (S.keep : Int) < 256 ∧ (nn : Int) = (S.keep : Int) ∨ (256 : Int) ≤ (S.keep : Int) ∧ (nn : Int) = 256 := by
        by_cases d : S.keep < 256
        · exact ⟨S.keep, .inl ⟨by omega, rfl⟩⟩
        · exact ⟨256, .inr ⟨by omega, rfl⟩⟩
      have hnn' := Lib.hid hnn
      have n6 : nn ≤ 256 := by omega
      clear hnn
      have yF := Lib.hid (yC.out.congr (rowOf_congr (g := w8 (fillN s nn nn S.junk)) fun x _ => by unfold w8 fillN; rw [if_neg (by omega)]))
      go_wp2_with (first | (refine wpList_min2 rfl _ _ rfl rfl (S.keep : Int) 256 (nn : Int) rfl rfl hnn'.out ?_))
      go_loopw [17] (fun v wr => ∃ x : Nat, nn ≤ x ∧ x ≤ 256 ∧ v = .int .i64 (x : Int) ∧ Hid (RowAt wr w.heap.size 36 (rowOf 139 (refF n m Sa M))) ∧ Hid (RowAt wr (w.heap.size + 1) 36 (rowOf 139 (refF 0 0 noneS noneM))) ∧ Hid (RowAt wr gb 5 (rowOf 256 (w8 (fillN s nn x S.junk)))) ∧ Hid (RowAt wr w4.heap.size 30 (rowOf 4 (pwF Sa))) ∧ Below w.heap.size w wr) (fun v _ => 256 - (intOf v).toNat)
      case atStart => exact ⟨nn, Nat.le_refl _, n6, rfl, rC, sC, yF, qC, bC⟩
      case round =>
        clear rC sC yC yF qC bC k2 lq7
        obtain ⟨x, hxn, hx, rfl, rL, sL, yL, qL, bL⟩ := hrel
        by_cases hlt : x < 256
        · have lt : (x : Int) < 256 := by omega
          have k3 := pf3 qL.out
          rw [aF.out.2.2.2.1] at k3
          have c0 := yL.out.cell x (by omega)
          generalize w8 (fillN s nn x S.junk) x = u at c0
          have f0 := yL.out.free x
          have e3 : Hid ((rowOf 256 (w8 (fillN s nn x S.junk))).setIfInBounds x (.int .u8 ((S.junk : Nat) : Int)) = rowOf 256 (w8 (fillN s nn (x + 1) S.junk))) := by
            unfold Hid
            rw [rowOf_upd8]
            refine rowOf_congr fun y hy2 => ?_
            unfold w8 upd fillN
            congr 2
            by_cases c : y = x
            · subst c
              rw [if_pos rfl, if_pos (by omega)]
            · rw [if_neg c]
              by_cases d : nn ≤ y ∧ y < x
              · rw [if_pos d, if_pos (by omega)]
              · rw [if_neg d, if_neg (by omega)]
          have yN := Lib.hid ((yL.out.set x (.int .u8 ((S.junk : Nat) : Int))).congr e3.out)
          have rN := Lib.hid (rL.out.other x (.int .u8 ((S.junk : Nat) : Int)) (p := gb) (by omega))
          have sN := Lib.hid (sL.out.other x (.int .u8 ((S.junk : Nat) : Int)) (p := gb) (by omega))
          have qN := Lib.hid (qL.out.other x (.int .u8 ((S.junk : Nat) : Int)) (p := gb) (by omega))
          have bN := bL.setCell (p := ⟨gb, x, none⟩) (show w.heap.size ≤ gb by omega) (.int .u8 ((S.junk : Nat) : Int))
          clear rL sL yL qL bL e3
          go_wp2
          go_roundw
          case rel => exact ⟨x + 1, by omega, by omega, by go_num, rN, sN, yN, qN, bN⟩
          case measure => simp [intOf]; omega
        · have lt : ¬ (x : Int) < 256 := by omega
          have yT := Lib.hid (yL.out.congr (rowOf_congr (g := w8 (pageN s S.keep S.junk)) fun y hy2 => by
            unfold w8 fillN pageN
            congr 2
            by_cases d : y < S.keep
            · rw [if_pos d, if_neg (by have := hnn'.out; omega)]
            · rw [if_neg d, if_pos (by have := hnn'.out; omega)]))
          have rT := rL
          have sT := sL
          have bT := bL
          clear rL sL yL qL bL hlt hx hxn
          have cv : Hid (∀ w' : World, RowAt w' gb 5 (rowOf 256 (w8 (pageN s S.keep S.junk))) → (convert 65 9 (.slice (some ⟨gb, 0, none⟩) 256 256)).run Try.prog w' = .ok (.string (pageT s S.keep S.junk)) w') := fun w' h => block_string bytes.out Try.underlying65 Try.underlying5 Try.underlying9 h
          have isT := Lib.hid (isB_page s S.keep S.junk)
          clear bytes
          obtain ⟨T, hT⟩ : ∃ T, pageT s S.keep S.junk = T := ⟨_, rfl⟩
          rw [hT] at cv isT
          replace hT := Lib.hid hT
          have c71 := rf71 rT.out
          rw [hN] at c71
          have lpT : w.heap.size < wr.heap.size := rT.out.lt
          have lsT : w.heap.size + 1 < wr.heap.size := sT.out.lt
          have lyT : gb < wr.heap.size := yT.out.lt
          have rD := Lib.hid (rT.out.alloc (.cells #[] 94))
          have sD := Lib.hid (sT.out.alloc (.cells #[] 94))
          have yD := Lib.hid (yT.out.alloc (.cells #[] 94))
          have bD := bT.alloc bT.size (.cells #[] 94)
          have cD := rf71 rD.out
          rw [hN] at cD
          have hF := Lib.hid (hc.out.cells.after bD)
          rw [hN] at hF
          have own0 : Hid ((wr.alloc (.cells #[] 94)).ownsRow wr.heap.size 94 2 (.slice (some ⟨wr.heap.size, 0, none⟩) 0 0) 0 []) := World.ownsRow_made wr #[] 0 (Nat.le_refl _) (by decide) rfl
          have szD : wr.heap.size ≤ (wr.alloc (.cells #[] 94)).heap.size := by simp
          have hN66 : N ≤ 1000000 := by have := hN6.out; omega
          have hN0 : Hid (0 < N) := by unfold Hid; omega
          clear rT sT yT bT
          go_wp2_with (first | (refine wpList_append_K Try.underlying32 infoCell rfl (by decide) (by decide) rfl _ _ rfl wr.heap.size _ 0 [] rfl own0.out szD M.al N M.cl rfl (cellV m S.page) hF.out (cellV_one m S.page) (by decide) hN66 hN0.out ?_; intro v8 w8' h8 b8; refine Hid.out ?_))
          unfold Hid
          have h9 := h8.out
          rw [List.nil_append, Nat.zero_add] at h9
          obtain ⟨g, cap, G, rfl, rg, hG, hgb, hcap, hmx⟩ := own_rowOf h9 hN0.out
          have hGG : Hid (∀ x, x < N * 2 → G x = cellV m S.page x) := fun x hx => by
            have h1 := hG x hx
            rw [cellL_get _ _ _ hx] at h1
            exact (Option.some.inj h1).symm
          have r8 := Lib.hid (rD.out.below b8.out (by omega))
          have s8 := Lib.hid (sD.out.below b8.out (by omega))
          have y8 := Lib.hid (yD.out.below b8.out (by omega))
          have b9 := bD.trans (b8.out.mono (by omega))
          have gp : g ≠ w.heap.size := by omega
          have gs : g ≠ w.heap.size + 1 := by omega
          have gy : gb ≠ g := by omega
          clear h8 h9 hG b8 own0 hF rD sD yD bD cD szD c71
          obtain ⟨Sp, hSp⟩ : ∃ Sp : St, Sp = { Sa with page := updP S.page i (updS (S.page i) j T) } := ⟨_, rfl⟩
          have rE := Lib.hid ((r8.out.set 71 (.slice (some ⟨g, 0, none⟩) (n * m) cap)).congr (ref_set (ref_L n m Sa M g cap (updP S.page i (updS (S.page i) j T)))))
          have sE := Lib.hid (s8.out.other 71 (.slice (some ⟨g, 0, none⟩) (n * m) cap) (p := w.heap.size) (by omega))
          have yE := Lib.hid (y8.out.other 71 (.slice (some ⟨g, 0, none⟩) (n * m) cap) (p := w.heap.size) (by omega))
          have gE := Lib.hid (rg.other 71 (.slice (some ⟨g, 0, none⟩) (n * m) cap) (p := w.heap.size) gp)
          have bE := b9.setCell (p := ⟨w.heap.size, 71, none⟩) (Nat.le_refl _) (.slice (some ⟨g, 0, none⟩) (n * m) cap)
          obtain ⟨M1, hM1⟩ : ∃ M1 : Mem, M1 = { M with al := some ⟨g, 0, none⟩, cl := cap } := ⟨_, rfl⟩
          rw [← hM1, ← hSp] at rE
          rw [hN] at rE sE yE gE bE
          have c8 := rf71 r8.out
          have f8 := r8.out.free 71
          have hal : Hid (M1.al = some ⟨g, 0, none⟩ ∧ M1.cl = cap ∧ M1.ap = M.ap ∧ M1.cp = M.cp) := by subst hM1; exact ⟨rfl, rfl, rfl, rfl⟩
          have pF : Hid (Sp.page = updP S.page i (updS (S.page i) j T) ∧ Sp.hist = S.hist ∧ Sp.progs = S.progs) := by subst hSp; exact ⟨rfl, aF.out.2.1, aF.out.2.2.2.2⟩
          clear r8 s8 y8 rg b9 hM1
          have gN := Lib.hid (gE.out.setRow (rowOf (cap * 2) (laidV G (pairC true T) (q * 2) 2)))
          have rN := Lib.hid (rE.out.setRowOther g (rowOf (cap * 2) (laidV G (pairC true T) (q * 2) 2)) (Ne.symm gp))
          have sN := Lib.hid (sE.out.setRowOther g (rowOf (cap * 2) (laidV G (pairC true T) (q * 2) 2)) (Ne.symm gs))
          have yN := Lib.hid (yE.out.setRowOther g (rowOf (cap * 2) (laidV G (pairC true T) (q * 2) 2)) gy)
          have bN := below_setRow' bE (show w.heap.size ≤ g by omega) (rowOf (cap * 2) (laidV G (pairC true T) (q * 2) 2))
          have hGN : Hid (∀ x, x < N * 2 → laidV G (pairC true T) (q * 2) 2 x = cellV m Sp.page x) := cell_lay (s := T) (b := true) hj hqq'.out hGG.out isT.out (fun a y hy => by
            rw [pF.out.1]
            unfold updP updS
            by_cases c : a = i
            · rw [if_pos c]
              by_cases d : y = j
              · rw [if_pos d, if_pos (show a = i ∧ y = j from ⟨c, d⟩)]
              · rw [if_neg d, if_neg (show ¬ (a = i ∧ y = j) from fun h => d h.2), c]
            · rw [if_neg c, if_neg (show ¬ (a = i ∧ y = j) from fun h => c h.1)]) rfl rfl
          have hle : q * 2 + 2 ≤ cap * 2 := by omega
          have hqI : (q : Int) < (N : Int) := by omega
          have c9 := rf71 rE.out
          rw [hal.out.1, hal.out.2.1, hN] at c9
          have cvE := cv.out _ yE.out
          have eQ : Hid (prS (cntP (actS S false (S.left - 1))) i j (pageT s S.keep S.junk) = { { Sp with hist := S.hist ++ [T] } with progs := S.progs + 1 }) := by
            unfold Hid
            rw [hT.out]
            subst hSp
            subst hSa
            rfl
          clear hSp
          go_wp2_with (first | (refine wpList_buildTo rfl 94 _ rfl _ rfl (rowOf 2 (pairC true T)) (by kernel_rfl) ?_) | (refine wpList_store_at rfl 94 _ _ rfl g (q * 2) (cap * 2) 2 G (pairC true T) rfl rfl 94 gE.out sz_cell (rowOf_one (pairC_one _ _)) hle ?_; generalize World.setRow _ g (rowOf (cap * 2) (laidV G (pairC true T) (q * 2) 2)) = w10 at *; refine Hid.out ?_))
          unfold Hid
          clear rE sE yE gE bE c8 f8 c9 cvE hGG
          have lp10 : w.heap.size < w10.heap.size := rN.out.lt
          have ls10 : w.heap.size + 1 < w10.heap.size := sN.out.lt
          have lg10 : g < w10.heap.size := gN.out.lt
          have hpast := Lib.hid (hc.out.past.after bN)
          change Hid (SeesV w10 M.ap S.hist.length (strV (fun x => S.hist.getD x ⟨#[]⟩))) at hpast
          have c136 : ∀ w', Below w10.heap.size w10 w' → w'.cell? ⟨w.heap.size, 136, none⟩ = some (.slice M.ap S.hist.length M.cp) := fun w' hb => by
            have h9 := rf136 (rN.out.below hb rN.out.lt)
            rw [hal.out.2.2.1, hal.out.2.2.2, pF.out.2.1] at h9
            exact h9
          have cvc : ∀ w', Below w10.heap.size w10 w' → (convert 65 9 (.slice (some ⟨gb, 0, none⟩) 256 256)).run Try.prog w' = .ok (.string T) w' := fun w' hb => cv.out w' (yN.out.below hb yN.out.lt)
          have hk6 : S.hist.length ≤ 1000000 := lw'.out.2
          replace c136 := Lib.hid c136
          replace cvc := Lib.hid cvc
          go_wp2_with fail
          refine wp_region_head 9 (fun w' => Below w10.heap.size w10 w') [emptys w10.heap.size, eqv (.pointer (some ⟨w.heap.size, 136, none⟩)), eqv (.slice M.ap S.hist.length M.cp), owns w10.heap.size S.hist.length (fun x => S.hist.getD x ⟨#[]⟩), eqv (.slice (some ⟨gb, 0, none⟩) 256 256), eqv (.string T), ones T, owns w10.heap.size (S.hist.length + 1) (snocS (fun x => S.hist.getD x ⟨#[]⟩) S.hist.length T), eqv (.pointer (some ⟨w.heap.size, 136, none⟩))] (KeptS w10.heap.size S.hist.length (fun x => S.hist.getD x ⟨#[]⟩) T) (by kernel_rfl) (by kernel_rfl) ((Below.refl _ _).drew) (.cons kept_emptys (.cons (kept_eqv _) (.cons (kept_eqv _) (.cons kept_owns (.cons (kept_eqv _) (.cons (kept_eqv _) (.cons kept_ones (.cons kept_owns1 (.cons (kept_eqv _) .nil))))))))) ?_
          intro R hR
          simp only [List.take_succ_cons, List.take_zero, List.drop_succ_cons, List.drop_zero]
          refine wpRely_cons (fun w' hC hf => ?_) (fun v0 => ?_)
          · skip
            exact grows_emptys hR hC rfl (by rfl) (by go_simp)
          simp only [Act.put, List.setIfInBounds_toArray, List.set_cons_succ, List.set_cons_zero, List.nil_append]
          refine wpRely_cons (fun w' hC hf => ?_) (fun v1 => ?_)
          · (repeat (first | (obtain ⟨rfl, hf⟩ := hf) | (obtain ⟨_, hf⟩ := hf)))
            have c9 := c136.out _ hC; have cx := cvc.out _ hC; exact grows_eqv (by rfl) hC (by go_simp)
          simp only [Act.put, List.setIfInBounds_toArray, List.set_cons_succ, List.set_cons_zero, List.nil_append, List.cons_append]
          refine wpRely_cons (fun w' hC hf => ?_) (fun v2 => ?_)
          · (repeat (first | (obtain ⟨rfl, hf⟩ := hf) | (obtain ⟨_, hf⟩ := hf)))
            have c9 := c136.out _ hC; have cx := cvc.out _ hC; exact grows_eqv (by rfl) hC (by go_simp)
          simp only [Act.put, List.setIfInBounds_toArray, List.set_cons_succ, List.set_cons_zero, List.nil_append, List.cons_append]
          refine wpRely_cons (fun w' hC hf => ?_) (fun v3 => ?_)
          · obtain ⟨he, rfl, _⟩ := hf
            exact grows_app1 hR hC rfl (by rfl) rfl rfl he rfl hpast.out hc.out.nil hk6
          simp only [Act.put, List.setIfInBounds_toArray, List.set_cons_succ, List.set_cons_zero, List.nil_append, List.cons_append]
          refine wpRely_cons (fun w' hC hf => ?_) (fun v4 => ?_)
          · (repeat (first | (obtain ⟨rfl, hf⟩ := hf) | (obtain ⟨_, hf⟩ := hf)))
            have c9 := c136.out _ hC; have cx := cvc.out _ hC; exact grows_eqv (by rfl) hC (by go_simp)
          simp only [Act.put, List.setIfInBounds_toArray, List.set_cons_succ, List.set_cons_zero, List.nil_append, List.cons_append]
          refine wpRely_cons (fun w' hC hf => ?_) (fun v5 => ?_)
          · (repeat (first | (obtain ⟨rfl, hf⟩ := hf) | (obtain ⟨_, hf⟩ := hf)))
            have c9 := c136.out _ hC; have cx := cvc.out _ hC; exact grows_eqv (by rfl) hC (by go_simp)
          simp only [Act.put, List.setIfInBounds_toArray, List.set_cons_succ, List.set_cons_zero, List.nil_append, List.cons_append]
          refine wpRely_cons (fun w' hC hf => ?_) (fun v6 => ?_)
          · (repeat (first | (obtain ⟨rfl, hf⟩ := hf) | (obtain ⟨_, hf⟩ := hf)))
            exact grows_ones hR hC (by rfl) (by go_simp)
          simp only [Act.put, List.setIfInBounds_toArray, List.set_cons_succ, List.set_cons_zero, List.nil_append, List.cons_append]
          refine wpRely_cons (fun w' hC hf => ?_) (fun v7 => ?_)
          · obtain ⟨h3, h6, _⟩ := hf
            exact grows_app2 hR hC rfl (by rfl) rfl rfl h3 rfl h6 hk6
          simp only [Act.put, List.setIfInBounds_toArray, List.set_cons_succ, List.set_cons_zero, List.nil_append, List.cons_append]
          refine wpRely_cons (fun w' hC hf => ?_) (fun v8 => ?_)
          · (repeat (first | (obtain ⟨rfl, hf⟩ := hf) | (obtain ⟨_, hf⟩ := hf)))
            have c9 := c136.out _ hC; have cx := cvc.out _ hC; exact grows_eqv (by rfl) hC (by go_simp)
          simp only [Act.put, List.setIfInBounds_toArray, List.set_cons_succ, List.set_cons_zero, List.nil_append, List.cons_append]
          refine wpRely_nil fun w11 hC hf => ?_
          obtain ⟨_, _, _, _, _, _, _, o7, rfl, _⟩ := hf
          obtain ⟨a7, c7, rfl, s7, hc7, hm7, ha7⟩ := own_seesV o7 (F := strV (snocS (fun x => S.hist.getD x ⟨#[]⟩) S.hist.length T)) (fun x hx => cellL_get _ _ x (by omega))
          rw [Nat.mul_one] at s7
          have el : (S.hist ++ [T]).length = S.hist.length + 1 := by simp
          have sP7 : SeesV w11 a7 (S.hist ++ [T]).length (lstS (S.hist ++ [T])) := by
            rw [el]
            refine s7.congr fun x hx => ?_
            unfold strV snocS lstS
            by_cases c : x = S.hist.length
            · rw [if_pos c, c, List.getD_eq_getElem?_getD, List.getElem?_append_right (Nat.le_refl _)]
              simp
            · rw [if_neg c]
              show Value.string (S.hist.getD x ⟨#[]⟩) = Value.string ((S.hist ++ [T]).getD x ⟨#[]⟩)
              rw [List.getD_eq_getElem?_getD, List.getD_eq_getElem?_getD, List.getElem?_append_left (by omega)]
          have hne7 : ∀ ad, a7 = some ad → ad.block ≠ w.heap.size ∧ ad.block ≠ w.heap.size + 1 := fun ad e => by
            have := (ha7 ad e).1
            omega
          have nil7 : a7 = none → c7 = 0 := fun e => by
            obtain ⟨ad, e2, _⟩ := s7.some (Nat.succ_pos _)
            rw [e] at e2
            cases e2
          have rP := rN.out.below hC rN.out.lt
          have sP := sN.out.below hC sN.out.lt
          have gP := gN.out.below hC gN.out.lt
          have bP := bN.trans (hC.mono bN.size)
          have c9 := c136.out _ hC
          have f9 := rP.free 136
          obtain ⟨M2, hM2⟩ : ∃ M2 : Mem, M2 = { M1 with ap := a7, cp := c7 } := ⟨_, rfl⟩
          obtain ⟨Sq, hSq⟩ : ∃ Sq : St, Sq = { Sp with hist := S.hist ++ [T] } := ⟨_, rfl⟩
          obtain ⟨S9, hS9⟩ : ∃ S9 : St, S9 = { Sq with progs := Sq.progs + 1 } := ⟨_, rfl⟩
          have rQ := (rP.set 136 (.slice a7 (S.hist ++ [T]).length c7)).congr (ref_set (ref_P n m Sp M1 a7 c7 (S.hist ++ [T])))
          rw [← hM2, ← hSq, el] at rQ
          replace rQ := Lib.hid rQ
          have sQ := Lib.hid (sP.other 136 (.slice a7 (S.hist.length + 1) c7) (p := w.heap.size) (by omega))
          have gQ := Lib.hid (gP.other 136 (.slice a7 (S.hist.length + 1) c7) (p := w.heap.size) gp)
          have bQ := bP.setCell (p := ⟨w.heap.size, 136, none⟩) (Nat.le_refl _) (.slice a7 (S.hist.length + 1) c7)
          have uQ := Lib.hid (sP7.setCell (p := w.heap.size) (i := 136) (v := .slice a7 (S.hist.length + 1) c7) fun ad e => (hne7 ad e).1)
          have eP : Sq.progs = S.progs := by rw [hSq]; exact pF.out.2.2
          have hp6 : S.progs ≤ 1000000 := lw'.out.1
          have cpr := rf137 rQ.out
          have fpr := rQ.out.free 137
          rw [eP] at cpr
          have rR := (rQ.out.set 137 (.int .i64 ((Sq.progs + 1 : Nat) : Int))).congr (ref_set (ref_prg n m Sq M2))
          rw [← hS9, eP, show ((S.progs + 1 : Nat) : Int) = ((S.progs : Nat) : Int) + 1 by omega] at rR
          replace rR := Lib.hid rR
          have sR := Lib.hid (sQ.out.other 137 (.int .i64 (((S.progs : Nat) : Int) + 1)) (p := w.heap.size) (by omega))
          have gR := Lib.hid (gQ.out.other 137 (.int .i64 (((S.progs : Nat) : Int) + 1)) (p := w.heap.size) gp)
          have bR := bQ.setCell (p := ⟨w.heap.size, 137, none⟩) (Nat.le_refl _) (.int .i64 (((S.progs : Nat) : Int) + 1))
          have uR := Lib.hid (uQ.out.setCell (p := w.heap.size) (i := 137) (v := .int .i64 (((S.progs : Nat) : Int) + 1)) fun ad e => (hne7 ad e).1)
          have hP9 : Hid (S9.page = Sp.page ∧ S9.hist = S.hist ++ [T]) := by subst hS9; subst hSq; exact ⟨rfl, rfl⟩
          have hM9 : Hid (M2.al = some ⟨g, 0, none⟩ ∧ M2.ap = a7 ∧ M2.cp = c7) := by subst hM2; exact ⟨hal.out.1, rfl, rfl⟩
          have eQ9 : Hid (prS (cntP (actS S false (S.left - 1))) i j (pageT s S.keep S.junk) = S9) := by
            unfold Hid
            rw [eQ.out]
            subst hS9
            subst hSq
            show ({ { Sp with hist := S.hist ++ [T] } with progs := S.progs + 1 } : St) = { { Sp with hist := S.hist ++ [T] } with progs := Sp.progs + 1 }
            rw [pF.out.2.2]
          replace ha7 := Lib.hid ha7
          replace hne7 := Lib.hid hne7
          replace nil7 := Lib.hid nil7
          clear hM2 hSq hS9 eP el s7 sP7 rP sP gP bP o7 hc7 hm7 rN sN gN yN hSa
          go_wp2_with (first | (refine wpList_load_row rfl 36 _ rfl w.heap.size rfl 36 (rowOf 139 (refF n m S9 M2)) (0, 0) _ rR.out Try.underlying36 rfl (infoChip _) ?_) | (refine wpList_store_row rfl 36 _ _ rfl (w.heap.size + 1) (rowOf 139 (refF n m S9 M2)) rfl rfl 36 (rowOf 139 (refF 0 0 noneS noneM)) sR.out (infoChip _) (by rw [rowOf_size, rowOf_size]) (refF_all _ _ _ _) ?_))
          have gY := gR.out.setRowOther (w.heap.size + 1) (rowOf 139 (refF n m S9 M2)) gs
          have uY := uR.out.setRow (p := w.heap.size + 1) (cs := rowOf 139 (refF n m S9 M2)) fun ad e => (hne7.out ad e).2
          refine bodyPost_ret (v := .tuple #[.agg (rowOf 139 (refF n m S9 M2)), .int .i64 4]) ?_ rfl ⟨M2, by rw [eQ9.out], by rw [eQ9.out]; exact ⟨by rw [hM9.out.1]; exact RowAt.seesV gY (by omega) (by rw [hN, hP9.out.1]; exact hGN.out), by rw [hM9.out.2.1, hP9.out.2]; exact uY, by rw [hM9.out.2.1, hM9.out.2.2]; exact nil7.out⟩, below_setRow' bR (Nat.le_succ _) _, fun ad e => by rw [hM9.out.1] at e; cases e; exact .inr ⟨by show w.heap.size ≤ g; omega, gY.lt⟩, fun ad e => by rw [hM9.out.2.1] at e; exact .inr ⟨by have := (ha7.out ad e).1; omega, by obtain ⟨ad2, e3, hl3⟩ := SeesV.some uY (show 0 < (S.hist ++ [T]).length by simp); rw [e] at e3; cases e3; exact hl3⟩⟩
          exact results_row_one Try.results13 _ _ (w.heap.size + 1) 36 (rowOf 139 (refF n m S9 M2)) (0, 0) _ rfl (sR.out.setRow _) Try.underlying36 rfl (infoChip _)


end Go.Proofs.Ytogeccmeaacgnaa
