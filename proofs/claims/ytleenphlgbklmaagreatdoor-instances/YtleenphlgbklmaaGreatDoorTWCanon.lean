import Derived.Test.YtleenphlgbklmaaGreatDoorTTGood
import Derived.Deep.DeepCutAuto
import Derived.Deep.LoopGhost
import Derived.Test.YtleenphlgbklmaaGreatDoorTWShown
set_option linter.unusedVariables false
set_option linter.unusedSimpArgs false
namespace Go.Proofs.YtleenphlgbklmaaGreatDoor
open Go.RowKit

def intV (n : Nat) : Value := .int .i64 n
def inB (ns : List Nat) (n : Nat) : Bool := ns.contains n
set_option maxHeartbeats 1000000 in
theorem in_any (w : World) (lv : Value) (B : Nat) (ns : List Nat) (h : w.ownsRow B 3 1 lv ns.length (ns.map intV)) (n : Nat) :
    Calls Tryz.prog 84 #[lv, .int .i64 n] w fun e w' => e = .returned (.bool (inB ns n)) ∧ w' = w := by
  obtain ⟨ao, cap, rfl, hao⟩ := row_form0 h
  have hml := row_max h
  go_enter Tryz.func84, Tryz.ntmps84
  go_wp2
  go_loop [9] (fun v => ∃ j : Nat, v = .int .i64 j ∧ j ≤ ns.length ∧ ∀ i, i < j → ns.getD i 0 ≠ n) (fun v => ns.length - (intOf v).toNat)
  case atStart => exact ⟨0, rfl, Nat.zero_le _, fun i hi => by omega⟩
  case round =>
    obtain ⟨j, rfl, hj, hno⟩ := hrel
    have HNO : Hid _ := hno
    clear hno
    by_cases hlt : j < ns.length
    · obtain ⟨g, rfl⟩ := hao (by omega)
      have cm : w.cell? ⟨g, j, none⟩ = some (.int .i64 (ns.getD j 0 : Nat)) := by
        have := h.cellAt j (by simpa using hlt)
        rw [this]
        simp [List.getD, hlt, intV]
      have HM : Hid (ns.getD j 0 = ns.getD j 0) := rfl
      obtain ⟨m, hm⟩ : ∃ m, m = ns.getD j 0 := ⟨_, rfl⟩
      rw [← hm] at cm
      have HD : Hid (m = ns.getD j 0) := hm
      clear hm HM
      by_cases hmn : m = n
      · have E : Hid (inB ns n = true) := by
          show ns.contains n = true
          rw [List.contains_iff_mem]
          have : ns.getD j 0 ∈ ns := by simp [List.getD, hlt]
          rw [← HD.out, hmn] at this
          exact this
        have hb : ((m : Int) == (n : Int)) = true := by simp [hmn]
        clear HNO HD hmn
        go_wp2
        go_ret
        exact ⟨by rw [E.out]; rfl, rfl⟩
      · have E : Hid (∀ i, i < j + 1 → ns.getD i 0 ≠ n) := by
          intro i hi
          by_cases e : i = j
          · subst e; rw [← HD.out]; exact hmn
          · exact HNO.out i (by omega)
        have hb : ((m : Int) == (n : Int)) = false := by simp; omega
        clear HNO HD hmn
        go_wp2
        go_round
        case rel => exact ⟨j + 1, by go_num, by omega, E.out⟩
        case measure => simp [intOf]; omega
    · have E : Hid (inB ns n = false) := by
        show ns.contains n = false
        rw [Bool.eq_false_iff]
        intro q
        rw [List.contains_iff_mem] at q
        obtain ⟨i, hi, e⟩ := List.getElem_of_mem q
        have := HNO.out i (by omega)
        simp [List.getD, hi] at this
        exact this e
      clear HNO
      go_wp2
      go_ret
      exact ⟨by rw [E.out]; rfl, rfl⟩

mutual
def varsM : Ty → List Nat → List Nat
  | .mk kd n kids, l => if kd.data.toList == [] then (if inB l n then l else l ++ [n]) else varsMs kids l
def varsMs : List Ty → List Nat → List Nat
  | [], l => l
  | t :: ts, l => varsMs ts (varsM t l)
end
theorem varsMs_append (ts : List Ty) (t : Ty) (l : List Nat) : varsMs (ts ++ [t]) l = varsM t (varsMs ts l) := by
  induction ts generalizing l with
  | nil => simp [varsMs]
  | cons x xs ih => simp only [List.cons_append, varsMs, ih]
mutual
theorem varsM_len : ∀ (t : Ty) (l : List Nat), l.length ≤ (varsM t l).length ∧ (varsM t l).length ≤ l.length + sz t
  | .mk kd n kids, l => by
    have := varsMs_len kids l
    simp only [varsM, sz]
    split
    · split <;> simp <;> omega
    · omega
theorem varsMs_len : ∀ (ts : List Ty) (l : List Nat), l.length ≤ (varsMs ts l).length ∧ (varsMs ts l).length ≤ l.length + szs ts
  | [], l => by simp [varsMs, szs]
  | t :: ts, l => by
    have h1 := varsM_len t l
    have h2 := varsMs_len ts (varsM t l)
    simp only [varsMs, szs]
    omega
end
theorem Tryz.info3 : (Tryz.prog.info? 3).map (fun i => (i.zero, i.size, i.bytes)) = some (some (.int .i64 0), 1, 8) := by kernel_rfl

set_option maxRecDepth 20000 in
set_option maxHeartbeats 2000000 in
theorem vars_any (x : Ty) : ∀ (w : World) (v lv : Value) (B : Nat) (ns : List Nat), TRep w x v → w.ownsRow B 3 1 lv ns.length (ns.map intV) → B ≤ w.heap.size → ns.length + sz x ≤ 100000 →
    Calls Tryz.prog 47 #[v, lv] w fun e w' => ∃ lv', e = .returned lv' ∧ w'.ownsRow B 3 1 lv' (varsM x ns).length ((varsM x ns).map intV) ∧ Kp (fun q => B ≤ q) w w' ∧ TKeep w w' := by
  induction x using Ty.ind with
  | h kd n kids ih =>
    intro w v lv B ns h hl hB hd
    simp only [TRep] at h
    obtain ⟨b, kv, ps, rfl, h2, h4, h5⟩ := h
    obtain ⟨ao, cap, rfl, hrow⟩ := row_form h4
    obtain ⟨ao2, cap2, rfl, hao2⟩ := row_form0 hl
    have c0 : w.cell? ⟨b, 0, none⟩ = some (.string kd) := by simp [World.cell?, h2]
    have c1 : w.cell? ⟨b, 1, none⟩ = some (.int .i64 n) := by simp [World.cell?, h2]
    have c2 : w.cell? ⟨b, 2, none⟩ = some (.slice ao ps.length cap) := by simp [World.cell?, h2]
    have hml := row_max h4
    have HL : Hid (ps.length = kids.length) := h5.len
    cases hk : (kd.toList == [])
    · have E : Hid (varsM (.mk kd n kids) ns = varsMs kids ns) := by simp only [Hid, varsM]; rw [← ByteArray.toList_eq, hk]; rfl
      have hszk : szs kids + 1 = sz (.mk kd n kids) := by simp [sz]
      rw [← hszk] at hd
      rw [E.out]
      clear hszk E
      go_enter Tryz.func47, Tryz.ntmps47
      go_wp2
      clear c0 c1 c2
      go_loopw [1, 31] (fun lq i wr => ∃ q : Nat, q ≤ ps.length ∧ i = .int .i64 q ∧ wr.ownsRow B 3 1 lq (varsMs (kids.take q) ns).length ((varsMs (kids.take q) ns).map intV) ∧ Kp (fun q => B ≤ q) w wr ∧ TKeep w wr) (fun _ i _ => ps.length - (intOf i).toNat)
      case atStart => exact ⟨0, Nat.zero_le _, rfl, by simpa [varsMs] using hl, Kp.refl _ _, TKeep.refl _⟩
      case round =>
        clear hl hao2
        obtain ⟨q, hq, rfl, hlq, hkq, htq⟩ := hrel
        by_cases hlt : q < ps.length
        · obtain ⟨g, rfl, hc⟩ := hrow q hlt
          have hqk : q < kids.length := by rw [← HL.out]; exact hlt
          have hf := TRep.keep htq _ (h5.at q hqk)
          have hc2 : wr.cell? ⟨g, q, none⟩ = some (ps.getD q (.pointer none)) := by
            rw [(ownsRow_tkeep h4 htq).cellAt q (by omega)]; simp [List.getD, hlt]
          have hmem : kids.getD q Ty.no ∈ kids := by simp [List.getD, hqk]
          have hle := szs_le hmem
          have hst : Hid (varsMs (kids.take (q + 1)) ns = varsM (kids.getD q Ty.no) (varsMs (kids.take q) ns)) := by
            show _ = _
            rw [List.take_succ_eq_append_getElem hqk, varsMs_append]
            simp [List.getD, hqk]
          have hln := (varsMs_len (kids.take q) ns).2
          have hsm : szs (kids.take q) + sz (kids.getD q Ty.no) ≤ szs kids := by
            have := szs_take_le kids (q + 1)
            rw [List.take_succ_eq_append_getElem hqk, szs_append] at this
            simpa [List.getD, hqk] using this
          have ihq := ih _ hmem wr _ _ B (varsMs (kids.take q) ns) hf hlq (Nat.le_trans hB hkq.size) (by omega)
          clear hc hrow ih h5 hmem hf hlq h4 h2
          generalize ps.getD q (.pointer none) = p at *
          generalize varsMs (kids.take q) ns = nq at *
          generalize kids.getD q Ty.no = y at *
          have IH : Hid _ := ihq
          clear ihq
          go_wp2_with fail
          refine Calls.mono (Hid.out IH) ?_
          rintro e w' ⟨lv', rfl, ho', hk', ht'⟩
          clear IH
          go_wp2
          go_roundw
          case rel => exact ⟨q + 1, by omega, by go_num, by rw [hst.out]; exact ho', hkq.trans hk', htq.trans ht'⟩
          case measure => simp [intOf]; omega
        · have hq2 : q = kids.length := by rw [← HL.out]; omega
          have hk2 : Hid (kids.take q = kids) := by show _ = _; rw [hq2, List.take_length]
          clear ih h5 hrow hq2 h4 h2
          go_wp2
          go_ret
          exact ⟨_, rfl, by rw [← hk2.out]; exact hlq, hkq, htq⟩
    · have E : Hid (varsM (.mk kd n kids) ns = if inB ns n then ns else ns ++ [n]) := by simp only [Hid, varsM]; rw [← ByteArray.toList_eq, hk]; rfl
      rw [E.out]
      clear E
      go_enter Tryz.func47, Tryz.ntmps47
      go_wp2_with fail
      refine (in_any w _ B ns hl n).mono ?_
      rintro e w' ⟨rfl, hww⟩
      rw [hww]
      clear hww w'
      cases hin : inB ns n
      · obtain ⟨i3, hi3, hz30, hz31, hz32⟩ := info_parts Tryz.info3
        have hszx : 1 ≤ sz (.mk kd n kids) := by simp [sz]
        clear hrow
        go_wp2_with (at_builtin; refine wpList_append_own2 _ rfl (.tmp 19) (.tmp 24) 91 rfl B 3 i3 (.int .i64 0) 1 8 Tryz.underlying91 hi3 hz30 hz31 hz32 rfl (by decide) _ _ _ rfl (hl.alloc _) ⟨w.heap.size, 0, none⟩ 1 1 [.int .i64 n] rfl rfl (fun q u hq => by match q, hq with | 0, hq => simp at hq; subst hq; simp [Addr.add]) (fun u hu => by simp at hu; subst hu; rfl) (by unfold maxLen; omega) (by omega) (by simp; omega) (by decide) ?_)
        intro g cap' w6 hown' hgrow hfr
        have kk : Kp (fun q => (Value.slice ao2 ns.length cap2).ownBlock = some q) w w6 := ((Kp.refl _ w).alloc _).grown hgrow (fun q e _ => e)
        have kB : Kp (fun q => B ≤ q) w w6 := kk.mono (fun q _ e => (hl.lt q e).1)
        have tk6 : TKeep w w6 := TKeep.kp kk (fun q hq cs e f hc => by
          rcases hl.2 with ⟨h1, _⟩ | ⟨g0, cap0, cur0, h1, _, h3, _⟩
          · rw [h1] at hq; simp [Value.ownBlock] at hq
          · rw [h1] at hq
            simp only [Value.ownBlock] at hq
            obtain rfl := Option.some.inj hq
            rw [h3] at hc; simp at hc; obtain ⟨_, rfl, _⟩ := hc; decide)
        clear hgrow hfr kk
        go_wp2
        all_goals
          go_ret
          exact ⟨_, rfl, by simpa [hin, intV] using hown', kB, tk6⟩
      · go_wp2
        go_ret
        exact ⟨_, rfl, by simpa [hin] using hl, Kp.refl _ _, TKeep.refl _⟩
end Go.Proofs.YtleenphlgbklmaaGreatDoor

namespace Go.Proofs.YtleenphlgbklmaaGreatDoor
open Go.RowKit

def bytesN (l : List Nat) : ByteArray := ⟨(l.map (fun n => UInt8.ofNat n)).toArray⟩
theorem conv1 (w : World) (z : Int) (h0 : 0 ≤ z) (h1 : z < 256) : (convert 153 9 (.slice (some ⟨w.heap.size, 0, none⟩) 1 1)).run Tryz.prog (w.alloc (.cells #[.int .u8 z] 5)) = .ok (.string (bytesN [z.toNat])) (w.alloc (.cells #[.int .u8 z] 5)) := by
  have hb : (w.alloc (.cells #[.int .u8 z] 5)).heap[w.heap.size]? = some (.cells #[.int .u8 z] 5 (0, 0)) := heap_alloc_new _ _
  have := run_convert_bytes_back (P := Tryz.prog) (w.alloc (.cells #[.int .u8 z] 5)) 153 9 5 ⟨w.heap.size, 0, none⟩ 1 [UInt8.ofNat z.toNat] Tryz.underlying153 Tryz.underlying5 Tryz.underlying9 (fun j hj => by
    have hj : j = 0 := by simpa using hj
    subst hj
    have e1 : (((UInt8.ofNat z.toNat).toNat : Nat) : Int) = z := by
      rw [UInt8.toNat_ofNat']
      omega
    have hcc : (w.alloc (.cells #[.int .u8 z] 5)).cell? ⟨w.heap.size, 0, none⟩ = some (.int .u8 z) := by unfold World.cell?; rw [hb]; rfl
    show (w.alloc (.cells #[.int .u8 z] 5)).cell? ⟨w.heap.size, 0, none⟩ = some (.int .u8 ((UInt8.ofNat z.toNat).toNat : Int))
    rw [e1]
    exact hcc)
  simpa [bytesN] using this
set_option maxRecDepth 20000 in
set_option maxHeartbeats 2000000 in
theorem figures_small (w : World) (n : Nat) (h : n < 10) :
    Calls Tryz.prog 85 #[.int .i64 n] w fun e w' => e = .returned (.string (bytesN [48 + n])) ∧ Below w.heap.size w w' := by
  have hc := conv1 w (48 + (n : Int)) (by omega) (by omega)
  have e : (48 + (n : Int)).toNat = 48 + n := by omega
  rw [e] at hc
  have HE : Hid _ := e
  clear e
  generalize bytesN [48 + n] = r at *
  go_enter Tryz.func85, Tryz.ntmps85
  go_wp2
  go_ret
  exact ⟨rfl, (Below.refl _ _).alloc (by simp) _⟩

def letM (n : Nat) : ByteArray := if n < 26 then bytesN [97 + n] else bytesN [97 + n % 26] ++ bytesN [48 + n / 26]
theorem letM_size (n : Nat) : (letM n).size ≤ 2 := by
  unfold letM
  split
  · have : (bytesN [97 + n]).size = 1 := rfl
    omega
  · have h1 : (bytesN [97 + n % 26]).size = 1 := rfl
    have h2 : (bytesN [48 + n / 26]).size = 1 := rfl
    rw [ByteArray.size_append]
    omega
set_option maxRecDepth 20000 in
set_option maxHeartbeats 2000000 in
theorem letter_small (w : World) (n : Nat) (h : n < 260) :
    Calls Tryz.prog 48 #[.int .i64 n] w fun e w' => e = .returned (.string (letM n)) ∧ Below w.heap.size w w' := by
  have hc := conv1 w (97 + (n : Int) % 26) (by omega) (by omega)
  have e : (97 + (n : Int) % 26).toNat = 97 + n % 26 := by omega
  rw [e] at hc
  clear e
  by_cases h25 : n < 26
  · have E : Hid (letM n = bytesN [97 + n % 26]) := by show _ = _; rw [letM, if_pos h25]; rw [Nat.mod_eq_of_lt h25]
    generalize bytesN [97 + n % 26] = r at *
    go_enter Tryz.func48, Tryz.ntmps48
    go_wp2
    go_ret
    exact ⟨by rw [E.out]; rfl, (Below.refl _ _).alloc (by simp) _⟩
  · have E : Hid (letM n = bytesN [97 + n % 26] ++ bytesN [48 + n / 26]) := by show _ = _; rw [letM, if_neg h25]
    have hsz : (bytesN [97 + n % 26]).size = 1 := rfl
    have hsz2 : (bytesN [48 + n / 26]).size = 1 := rfl
    have hf : ∀ w', Calls Tryz.prog 85 #[.int .i64 ((n : Int) / 26)] w' fun e w'' => e = .returned (.string (bytesN [48 + n / 26])) ∧ Below w'.heap.size w' w'' := fun w' => figures_small w' (n / 26) (by omega)
    have HF : Hid _ := hf
    clear hf
    generalize bytesN [97 + n % 26] = r at *
    generalize bytesN [48 + n / 26] = r2 at *
    go_enter Tryz.func48, Tryz.ntmps48
    go_wp2_with fail
    refine Calls.mono (HF.out _) ?_
    rintro e w2 ⟨rfl, hb2⟩
    have hb3 : Below w.heap.size w w2 := ((Below.refl _ _).alloc (by simp) _).trans (hb2.mono (by simp))
    clear hb2
    go_wp2
    go_ret
    exact ⟨by rw [E.out]; rfl, hb3⟩
end Go.Proofs.YtleenphlgbklmaaGreatDoor

namespace Go.Proofs.YtleenphlgbklmaaGreatDoor
open Go.RowKit

def mxL (ns : List Nat) : Nat := ns.foldl (fun m v => if m ≤ v then v + 1 else m) 0
theorem mxL_snoc (ns : List Nat) (v : Nat) : mxL (ns ++ [v]) = if mxL ns ≤ v then v + 1 else mxL ns := by unfold mxL; rw [List.foldl_append]; rfl
theorem mx_mono (ns : List Nat) (a : Nat) : a ≤ ns.foldl (fun m v => if m ≤ v then v + 1 else m) a := by
  induction ns generalizing a with
  | nil => exact Nat.le_refl _
  | cons v ns ih =>
    simp only [List.foldl_cons]
    refine Nat.le_trans ?_ (ih _)
    split <;> omega
theorem mx_mem (ns : List Nat) (a v : Nat) (h : v ∈ ns) : v < ns.foldl (fun m v => if m ≤ v then v + 1 else m) a := by
  induction ns generalizing a with
  | nil => cases h
  | cons u ns ih =>
    simp only [List.foldl_cons]
    rcases List.mem_cons.1 h with rfl | h
    · refine Nat.lt_of_lt_of_le ?_ (mx_mono ns _)
      split <;> omega
    · exact ih _ h
theorem mxL_mem {ns : List Nat} {v : Nat} (h : v ∈ ns) : v < mxL ns := mx_mem ns 0 v h
theorem mx_le (ns : List Nat) (a m : Nat) (ha : a ≤ m) (h : ∀ v, v ∈ ns → v < m) : ns.foldl (fun m v => if m ≤ v then v + 1 else m) a ≤ m := by
  induction ns generalizing a with
  | nil => exact ha
  | cons u ns ih =>
    simp only [List.foldl_cons]
    refine ih _ ?_ (fun v hv => h v (by simp [hv]))
    have := h u (by simp)
    split <;> omega
theorem mxL_le {ns : List Nat} {m : Nat} (h : ∀ v, v ∈ ns → v < m) : mxL ns ≤ m := mx_le ns 0 m (Nat.zero_le _) h

theorem varsM_leaf (n : Nat) (l : List Nat) : varsM (.mk { data := #[] } n []) l = if inB l n then l else l ++ [n] := by simp [varsM]
theorem varsM_int (l : List Nat) : varsM (.mk { data := #[105, 110, 116] } 0 []) l = l := by simp [varsM, varsMs]
theorem varsM_bool (l : List Nat) : varsM (.mk { data := #[98, 111, 111, 108] } 0 []) l = l := by simp [varsM, varsMs]
theorem varsM_list (a : Ty) (l : List Nat) : varsM (.mk { data := #[108, 105, 115, 116] } 0 [a]) l = varsM a l := by simp [varsM, varsMs]
theorem varsM_pair (a b : Ty) (l : List Nat) : varsM (.mk { data := #[112, 97, 105, 114] } 0 [a, b]) l = varsM b (varsM a l) := by simp [varsM, varsMs]
theorem varsM_fn (a b : Ty) (l : List Nat) : varsM (.mk { data := #[102, 117, 110] } 0 [a, b]) l = varsM b (varsM a l) := by simp [varsM, varsMs]
theorem varsM_sup {m : Nat} {t : Ty} (h : WT m t) : ∀ l v, v ∈ l → v ∈ varsM t l := by
  induction h with
  | var n hn => intro l v hv; rw [varsM_leaf]; split <;> simp [hv]
  | int => intro l v hv; rw [varsM_int]; exact hv
  | bool => intro l v hv; rw [varsM_bool]; exact hv
  | list a _ ih => intro l v hv; rw [varsM_list]; exact ih l v hv
  | pair a b _ _ ih ih2 => intro l v hv; rw [varsM_pair]; exact ih2 _ v (ih l v hv)
  | fn a b _ _ ih ih2 => intro l v hv; rw [varsM_fn]; exact ih2 _ v (ih l v hv)
theorem varsM_lt {m : Nat} {t : Ty} (h : WT m t) : ∀ l, (∀ v, v ∈ l → v < m) → ∀ v, v ∈ varsM t l → v < m := by
  induction h with
  | var n hn => intro l hl v hv; rw [varsM_leaf] at hv; split at hv; exact hl v hv; simp at hv; rcases hv with hv | rfl; exact hl v hv; exact hn
  | int => intro l hl v hv; rw [varsM_int] at hv; exact hl v hv
  | bool => intro l hl v hv; rw [varsM_bool] at hv; exact hl v hv
  | list a _ ih => intro l hl v hv; rw [varsM_list] at hv; exact ih l hl v hv
  | pair a b _ _ ih ih2 => intro l hl v hv; rw [varsM_pair] at hv; exact ih2 _ (ih l hl) v hv
  | fn a b _ _ ih ih2 => intro l hl v hv; rw [varsM_fn] at hv; exact ih2 _ (ih l hl) v hv
theorem WT.vars {m M : Nat} {t : Ty} (h : WT m t) : ∀ l, (∀ v, v ∈ varsM t l → v < M) → WT M t := by
  induction h with
  | var n hn =>
    intro l hl
    refine .var n (hl n ?_)
    rw [varsM_leaf]
    split
    · rename_i e
      exact List.contains_iff_mem.1 e
    · simp
  | int => intro l hl; exact .int
  | bool => intro l hl; exact .bool
  | list a _ ih => intro l hl; rw [varsM_list] at hl; exact .list a (ih l hl)
  | pair a b _ hb ih ih2 => intro l hl; rw [varsM_pair] at hl; exact .pair a b (ih l (fun v hv => hl v (varsM_sup hb _ v hv))) (ih2 _ hl)
  | fn a b _ hb ih ih2 => intro l hl; rw [varsM_fn] at hl; exact .fn a b (ih l (fun v hv => hl v (varsM_sup hb _ v hv))) (ih2 _ hl)

/-- names for variables: each by the next letter, at its number. -/
def cnA (ns : List Nat) (m : Nat) : Nat → List ByteArray
  | 0 => List.replicate m { data := #[] }
  | q + 1 => (cnA ns m q).set (ns.getD q 0) (letM q)
def cnN (ns : List Nat) : List ByteArray := cnA ns (mxL ns) ns.length
theorem cnA_len (ns : List Nat) (m q : Nat) : (cnA ns m q).length = m := by
  induction q with
  | zero => simp [cnA]
  | succ q ih => simp [cnA, ih]
theorem cnA_size (ns : List Nat) (m q : Nat) : ∀ x, x ∈ cnA ns m q → x.size ≤ 1000 := by
  induction q with
  | zero =>
    intro x hx
    simp [cnA] at hx
    rw [hx.2]
    decide
  | succ q ih =>
    intro x hx
    rcases List.mem_or_eq_of_mem_set hx with h | h
    · exact ih x h
    · rw [h]; have := letM_size q; omega
theorem made_str (ns : List Nat) (M : Nat) : (madeCells #[Value.string { data := #[] }] M).toList = (cnA ns M 0).map Value.string := by
  simp only [madeCells, cnA, Array.toList_map, Array.toList_range, List.map_replicate]
  apply List.ext_getElem
  · simp
  · intro i h1 h2
    simp [Nat.mod_one]
def canT (t : Ty) : ByteArray := shT (cnN (varsM t [])) t

set_option maxRecDepth 20000 in
set_option maxHeartbeats 2000000 in
theorem canon_any (w : World) (v : Value) (t : Ty) (m : Nat) (hw : WT m t) (hm : m ≤ 1000) (h : TRep w t v) (hs : sz t ≤ 120) :
    Calls Tryz.prog 20 #[v] w fun e w' => e = .returned (.string (canT t)) ∧ Kp (fun _ => False) w w' := by
  have hlen := (varsM_len t []).2
  simp at hlen
  have hlt := varsM_lt hw [] (fun _ h => nomatch h)
  have hmx := mxL_le hlt
  go_enter Tryz.func20, Tryz.ntmps20
  go_wp2_with fail
  refine (vars_any t w v (.slice none 0 0) w.heap.size [] h (World.ownsRow_nil _ _ _ _) (Nat.le_refl _) (by simp; omega)).mono ?_
  rintro e w1 ⟨lv, rfl, ho, hk, htk⟩
  obtain ⟨ao, cap, rfl, hao⟩ := row_form0 ho
  have h1 := TRep.keep htk t h
  have HT : Hid (canT t = shT (cnN (varsM t [])) t) := rfl
  obtain ⟨ns, hns⟩ : ∃ ns, ns = varsM t [] := ⟨_, rfl⟩
  rw [← hns] at ho hlen hlt hmx HT ⊢
  rw [← hns] at hao
  have HNS : Hid (ns = varsM t []) := hns
  clear hns
  go_wp2
  have hml := row_max ho
  go_loop [4, 14] (fun n i => ∃ q : Nat, i = .int .i64 q ∧ q ≤ ns.length ∧ n = .int .i64 (mxL (ns.take q) : Nat)) (fun _ i => ns.length - (intOf i).toNat)
  case atStart => exact ⟨0, rfl, Nat.zero_le _, by simp [mxL]⟩
  case round =>
    obtain ⟨q, rfl, hq, rfl⟩ := hrel
    by_cases hlq : q < ns.length
    · obtain ⟨g, rfl⟩ := hao (by omega)
      have cm : w1.cell? ⟨g, q, none⟩ = some (.int .i64 (ns.getD q 0 : Nat)) := by
        have := ho.cellAt q (by simpa using hlq)
        rw [this]
        simp [List.getD, hlq, intV]
      have hst : Hid (mxL (ns.take (q + 1)) = if mxL (ns.take q) ≤ ns.getD q 0 then ns.getD q 0 + 1 else mxL (ns.take q)) := by
        show _ = _
        rw [List.take_succ_eq_append_getElem hlq, mxL_snoc]
        simp [List.getD, hlq]
      have hvm : ns.getD q 0 < m := hlt _ (by simp [List.getD, hlq])
      have hmq : mxL (ns.take q) ≤ m := mxL_le (fun v hv => hlt v (List.mem_of_mem_take hv))
      generalize ns.getD q 0 = u at *
      generalize mxL (ns.take q) = mq at *
      by_cases hle : mq ≤ u
      · have E : Hid (mxL (ns.take (q + 1)) = u + 1) := by show _ = _; rw [hst.out, if_pos hle]
        clear hst hlt ho hao
        go_wp2
        go_round
        case rel => exact ⟨q + 1, by go_num, by omega, by rw [E.out]; go_num⟩
        case measure => simp [intOf]; omega
      · have E : Hid (mxL (ns.take (q + 1)) = mq) := by show _ = _; rw [hst.out, if_neg hle]
        clear hst hlt ho hao
        go_wp2
        go_round
        case rel => exact ⟨q + 1, by go_num, by omega, by rw [E.out]⟩
        case measure => simp [intOf]; omega
    · have hqe : q = ns.length := by omega
      subst hqe
      rw [List.take_length]
      obtain ⟨i9, hi9, hz90, hz91, hz92⟩ := info_parts Tryz.info9
      have hsz1 : w.heap.size ≤ w1.heap.size := hk.size
      obtain ⟨M, hM⟩ : ∃ M, M = mxL ns := ⟨_, rfl⟩
      rw [← hM] at hmx ⊢
      have HM : Hid (M = mxL ns) := hM
      clear hM
      go_wp2_with (at_make; refine wpList_make_full _ rfl _ _ 34 rfl w.heap.size 9 i9 (.string { data := #[] }) 1 Tryz.underlying34 hi9 hz90 hz91 _ _ _ _ M rfl rfl rfl rfl (by rw [hz92]; omega) (by unfold maxLen; omega) hsz1 ?_)
      intro w2 hown2 hg2
      have hmade := made_str ns M
      rw [hmade] at hown2
      have kp2 : Kp (fun q => w.heap.size ≤ q) w w2 := hk.grown hg2 (fun q e _ => by cases e)
      have ho2 : w2.ownsRow w.heap.size 3 1 (.slice ao ns.length cap) ns.length (ns.map intV) := ownsRow_same ho (fun q e => hg2.block q (ho.lt q e).2 (by simp))
      have ht2 : TRep w2 t v := TRep.keep (TKeep.kp ((Kp.refl (fun _ => False) w1).grown hg2 (fun q e _ => by cases e)) (fun q hq => by cases hq)) t h1
      clear hmade hg2 h1 ho htk
      go_wp2
      go_loopw [28] (fun i wr => ∃ q : Nat, q ≤ ns.length ∧ i = .int .i64 q ∧ wr.ownsRow w.heap.size 9 1 (.slice (some ⟨w1.heap.size, 0, none⟩) M M) M ((cnA ns M q).map Value.string) ∧ wr.ownsRow w.heap.size 3 1 (.slice ao ns.length cap) ns.length (ns.map intV) ∧ TRep wr t v ∧ Kp (fun q => w.heap.size ≤ q) w wr) (fun i _ => ns.length - (intOf i).toNat)
      case atStart => exact ⟨0, Nat.zero_le _, rfl, hown2, ho2, ht2, kp2⟩
      case round =>
        clear hown2 ho2 ht2 kp2
        obtain ⟨q, hq, rfl, hN, hI, hT, hK⟩ := hrel
        by_cases hlq : q < ns.length
        · obtain ⟨g, rfl⟩ := hao (by omega)
          have hvM : ns.getD q 0 < M := by rw [HM.out]; exact mxL_mem (by simp [List.getD, hlq])
          have cm : wr.cell? ⟨g, q, none⟩ = some (.int .i64 (ns.getD q 0 : Nat)) := by
            have := hI.cellAt q (by simpa using hlq)
            rw [this]
            simp [List.getD, hlq, intV]
          have HS : Hid (cnA ns M (q + 1) = (cnA ns M q).set (ns.getD q 0) (letM q)) := rfl
          generalize ns.getD q 0 = u at *
          clear hlt hao
          go_wp2_with fail
          refine (letter_small wr q (by omega)).mono ?_
          rintro e w3 ⟨rfl, hB3⟩
          have hN3 : w3.ownsRow w.heap.size 9 1 (.slice (some ⟨w1.heap.size, 0, none⟩) M M) M ((cnA ns M q).map Value.string) := ownsRow_same hN (fun k e => hB3.block k (hN.lt k e).2)
          have hI3 : w3.ownsRow w.heap.size 3 1 (.slice (some ⟨g, 0, none⟩) ns.length cap) ns.length (ns.map intV) := ownsRow_same hI (fun k e => hB3.block k (hI.lt k e).2)
          have hT3 := TRep.keep (TKeep.below hB3) t hT
          have hK3 : Kp (fun q => w.heap.size ≤ q) w w3 := hK.trans ⟨hB3.os, hB3.tape, hB3.output, hB3.size, fun k hk _ => hB3.block k hk⟩
          have x1 : ∃ y, w3.cell? ⟨w1.heap.size, u, none⟩ = some y := by
            have := hN3.cellAt u (by simp [cnA_len]; omega)
            rw [this]
            have hl : u < ((cnA ns M q).map Value.string).length := by simp [cnA_len]; exact hvM
            exact ⟨_, List.getElem?_eq_getElem hl⟩
          obtain ⟨y, x1⟩ := x1
          have f1 : w3.frozen? ⟨w1.heap.size, u, none⟩ = false := by
            rcases hN3.2 with ⟨e, _⟩ | ⟨g0, cap0, cur0, e, _, h3, _⟩
            · cases e
            · injection e with e1 e2
              injection e1 with e1
              injection e1 with e1
              subst e1
              simp [World.frozen?, h3]
          have st := hN3.stored u (.string (letM q))
          have hNb : w3.heap[w1.heap.size]? ≠ none ∧ ∃ cur, w3.heap[w1.heap.size]? = some (.cells cur 9 (0, 0)) := by
            rcases hN3.2 with ⟨e, _⟩ | ⟨g0, cap0, cur0, e, _, h3, _⟩
            · cases e
            · injection e with e1 e2
              injection e1 with e1
              injection e1 with e1
              subst e1
              exact ⟨by rw [h3]; simp, cur0, h3⟩
          obtain ⟨_, cur, hcur⟩ := hNb
          have kk : Kp (· = w1.heap.size) w3 (w3.setCell ⟨w1.heap.size, u, none⟩ (.string (letM q))) := (Kp.refl _ _).setCell _ _ (fun _ => rfl)
          have tk4 : TKeep w3 (w3.setCell ⟨w1.heap.size, u, none⟩ (.string (letM q))) := TKeep.kp kk (fun k hk cs e f hc => by
            have hk : k = w1.heap.size := hk
            subst hk
            rw [hcur] at hc
            simp at hc
            obtain ⟨_, rfl, _⟩ := hc
            decide)
          have hI4 : (w3.setCell ⟨w1.heap.size, u, none⟩ (.string (letM q))).ownsRow w.heap.size 3 1 (.slice (some ⟨g, 0, none⟩) ns.length cap) ns.length (ns.map intV) := ownsRow_setCell_other hI3 (row_ne hI3 hcur (by decide)) _
          have hN4 : (w3.setCell ⟨w1.heap.size, u, none⟩ (.string (letM q))).ownsRow w.heap.size 9 1 (.slice (some ⟨w1.heap.size, 0, none⟩) M M) M ((cnA ns M (q + 1)).map Value.string) := by
            rw [HS.out, List.map_set]
            exact st.1
          have hT4 := TRep.keep tk4 t hT3
          have hK4 := hK3.trans (kk.mono (fun k _ e => by have e : k = w1.heap.size := e; omega))
          clear st kk tk4 hcur hN3 hI3 hT3 hK3 hN hI hT hK hB3 cm
          go_wp2
          go_roundw
          case rel => exact ⟨q + 1, by omega, by go_num, hN4, hI4, hT4, hK4⟩
          case measure => simp [intOf]; omega
        · have hqe : q = ns.length := by omega
          subst hqe
          have hWT : WT (cnA ns M ns.length).length t := by
            rw [cnA_len, HM.out]
            refine hw.vars [] (fun v hv => ?_)
            rw [← HNS.out] at hv
            exact mxL_mem hv
          have hsh := shown_any (cnA ns M ns.length) (cnA_size ns M ns.length) hWT
          have HC : Hid (shT (cnA ns M ns.length) t = canT t) := by show _ = _; rw [HT.out, cnN, ← HM.out]
          have hN' : wr.ownsRow w.heap.size 9 1 (.slice (some ⟨w1.heap.size, 0, none⟩) M M) (cnA ns M ns.length).length ((cnA ns M ns.length).map Value.string) := by rw [cnA_len]; exact hN
          have hcall := hsh wr v _ _ hT hN' (by omega)
          rw [HC.out] at hcall
          have HCC : Hid (Calls Tryz.prog 23 #[v, .slice (some ⟨w1.heap.size, 0, none⟩) M M] wr fun e w' => e = .returned (.string (canT t)) ∧ ∃ n, w' = wr.drewN n) := hcall
          clear hcall hsh hWT hN' hN hI hT hao hlt
          go_wp2_with fail
          refine Calls.mono HCC.out ?_
          rintro e w5 ⟨rfl, m5, rfl⟩
          go_wp2
          go_ret
          exact ⟨rfl, (hK.mono (fun q hq e => by omega)).drewN m5⟩
end Go.Proofs.YtleenphlgbklmaaGreatDoor
