/- The law WireBack, walked: it answers true, and only makes memory. -/
import Derived.Test.YtggmgbdofjhkdaaLawForm
import Derived.Test.YtggmgbdofjhkdaaBackA
import Derived.Deep.RegionHeld3
namespace Go.Proofs.Ytggmgbdofjhkdaa
open Go.RowKit

theorem back_at {ps : List PutD} {k : Nat} {d : PutD} (h : ps[k]? = some d) (r : List UInt8) : (allB ps ++ r).drop (allB (ps.take k)).length = d.bytes ++ (allB (ps.drop (k + 1)) ++ r) := by
  have e1 : allB ps = allB (ps.take (k + 1)) ++ allB (ps.drop (k + 1)) := by rw [← allB_append, List.take_append_drop]
  rw [e1, allB_snoc h]
  simp

theorem getD_drop (l : List UInt8) (a : Nat) : l.getD a 0 = (l.drop a).getD 0 0 := by simp [List.getD_eq_getElem?_getD]

theorem Below.of_gb {w W W' : World} {b : Nat} (h : Below w.heap.size w W) (hg : W.grownBy W' (some b)) (hb : w.heap.size ≤ b) : Below w.heap.size w W' :=
  h.grown hg h.size (fun j e => by cases e; exact hb)

theorem cell_far {W W' : World} {b : Nat} {p : Addr} {v : Value} (hg : W.grownBy W' (some b)) (hp : p.block < W.heap.size) (hne : p.block ≠ b) (h : W.cell? p = some v) : W'.cell? p = some v :=
  (World.cell?_of_block (hg.block p.block hp (fun e => hne (by simpa using e)))).trans h

set_option maxRecDepth 100000 in
set_option maxHeartbeats 4000000 in
theorem lawBack_some (g o c : Nat) (ps : List PutD) (v1 : Value) (bs1 : List UInt8) (w : World) (hn : ps.length ≤ 1048576) (hlt : g < w.heap.size) (hl : (allB ps).length ≤ 11534336) (hs : Src w v1 bs1) (hb1 : bs1.length ≤ 1048576)
    (hp : ∀ j d, ps[j]? = some d →
      w.cell? ⟨g, o + j * 4, none⟩ = some (.int .i64 d.k) ∧ w.cell? ⟨g, o + j * 4 + 1, none⟩ = some (.int .u64 d.u) ∧ w.cell? ⟨g, o + j * 4 + 2, none⟩ = some (.int .i64 d.i) ∧ w.cell? ⟨g, o + j * 4 + 3, none⟩ = some d.tv ∧ PutOk w d.u d.i d.tv d.ss) :
    Calls Try.prog 5 #[.slice (some ⟨g, o, none⟩) ps.length c, v1] w fun e w' => e = .returned (.bool true) ∧ Below w.heap.size w w' := by
  have HP := hid hp
  have HS := hid hs
  obtain ⟨av, cv, hv1⟩ : ∃ a0 c0, v1 = .slice a0 bs1.length c0 := by
    obtain ⟨_, ⟨h1, h2⟩ | ⟨ad, cp, h1, _⟩⟩ := hs
    · exact ⟨none, 0, by rw [h1, h2]; rfl⟩
    · exact ⟨_, _, h1⟩
  subst hv1
  clear hp hs
  go_enter Try.func5, Try.ntmps5
  go_wp2
  go_loopw [5, 16] (fun x i wr => ∃ k : Nat, k ≤ ps.length ∧ i = .int .i64 k ∧ OwnB wr w.heap.size x (allB (ps.take k)) ∧ Below w.heap.size w wr) (fun _ i _ => ps.length - (intOf i).toNat)
  case atStart => exact ⟨0, Nat.zero_le _, rfl, OwnB.nil _ _, Below.refl _ _⟩
  case round =>
    obtain ⟨k, hk, rfl, hgo, hbl⟩ := hrel
    have HG := hid hgo
    have HB := hid hbl
    have hsz := hbl.size
    clear hgo hbl
    by_cases hkn : k < ps.length
    · obtain ⟨d, hd⟩ : ∃ d, ps[k]? = some d := ⟨_, List.getElem?_eq_getElem hkn⟩
      have HE := hid (allB_snoc hd)
      have h3 := allB_take_le ps k
      obtain ⟨pK, pU, pI, pT, hok⟩ := HP.out k d hd
      have cK := (HB.out.cell (p := ⟨g, o + k * 4, none⟩) hlt).trans pK
      have cU := (HB.out.cell (p := ⟨g, o + k * 4 + 1, none⟩) hlt).trans pU
      have cI := (HB.out.cell (p := ⟨g, o + k * 4 + 2, none⟩) hlt).trans pI
      have cT := (HB.out.cell (p := ⟨g, o + k * 4 + 3, none⟩) hlt).trans pT
      have HOK := hid (hok.below HB.out)
      clear pK pU pI pT hok hd
      obtain ⟨dk, du, di, dtv, dss⟩ := d
      simp only [PutD.bytes] at cK cU cI cT HE HOK
      obtain ⟨ao, cp, rfl⟩ := HOK.out.strs.shape
      go_wp2_with fail
      have HA := hid (below_walk wr (.cells #[.int .i64 dk, .int .u64 du, .int .i64 di, .slice ao dss.length cp] 27))
      refine (lay_any _ _ _ _ _ _ _ _ ((HG.out.below HA.out).src (by omega)) (HOK.out.below HA.out) (by omega)).mono ?_
      rintro e w1 ⟨v2, rfl, ho1, hb2⟩
      have HR := hid ((⟨(HE.out ▸ ho1.le (by simp; omega)), (HB.out.trans (HA.out.mono hsz)).trans (hb2.mono (by simp; omega))⟩ : OwnB w1 w.heap.size v2 (allB (ps.take (k + 1))) ∧ Below w.heap.size w w1))
      clear ho1 hb2 cK cU cI cT
      go_wp2
      go_roundw
      case rel => exact ⟨k + 1, by omega, by go_num, HR.out.1, HR.out.2⟩
      case measure => simp [intOf]; omega
    · have hke : ps.take k = ps := List.take_of_length_le (by omega)
      rw [hke] at HG
      clear hke
      obtain ⟨a5, c5, hu5⟩ := HG.out.shape
      subst hu5
      go_wp2_with (at_builtin; refine app_src rfl _ _ rfl wr.heap.size _ _ rfl (OwnB.nil _ _) _ _ rfl (HG.out.src (by omega)) ?c1 (Nat.le_refl _) ?_)
      case c1 => simp; omega
      intro v6 w6 ho6 hg6
      have HO6 := hid (by simpa using ho6 : OwnB w6 wr.heap.size v6 (allB ps))
      have HB6 := hid (HB.out.trans ((gb_below hg6).mono hsz))
      have hz6 : wr.heap.size ≤ w6.heap.size := hg6.size
      clear ho6 hg6
      go_wp2_with (at_builtin; refine app_src rfl _ _ rfl wr.heap.size _ _ rfl HO6.out _ _ rfl (HS.out.below HB6.out) ?d1 hz6 ?_)
      case d1 => omega
      intro v7 w7 ho7 hg7
      have HO7 := hid ho7
      have HB7 := hid (HB6.out.grown hg7 (by omega) (fun j e => by have := (HO6.out.lt j e).1; omega))
      have hz7 : w6.heap.size ≤ w7.heap.size := hg7.size
      clear ho7 hg7
      go_wp2_with fail
      refine (newReader_any _ _ _ (HO7.out.src (by simp; omega))).mono ?_
      rintro e w8 ⟨b, v, rfl, hR8, hb8⟩
      have HR8 := hid hR8
      have HB8 := hid (HB7.out.trans (hb8.mono (by omega)))
      have hbw : w.heap.size ≤ b := by have := hR8.lo; omega
      clear hR8 hb8
      go_wp2_with fail
      refine (alive_true _).mono ?_
      rintro e w9 ⟨rfl, hb9⟩
      have HR9 := hid (HR8.out.below hb9)
      have HB9 := hid (HB8.out.trans (hb9.mono HB8.out.size))
      clear hb9 HR8 HB8 HB7 HO7 HO6 HB6 HG HB
      go_wp2_with fail
      obtain ⟨BS, HBS⟩ : ∃ BS, Hid (BS = allB ps ++ bs1) := ⟨_, rfl⟩
      have hBSl : BS.length ≤ 12582912 := by rw [HBS.out]; simp; omega
      rw [← HBS.out] at HR9
      obtain ⟨base, hbase⟩ : ∃ base, base = w7.heap.size := ⟨_, rfl⟩
      rw [← hbase] at HR9
      clear hbase
      go_loopw [37] (fun i wq => ∃ k : Nat, k ≤ ps.length ∧ i = .int .i64 k ∧ Rd wq base b v BS (allB (ps.take k)).length 0 0 ∧ Below w.heap.size w wq) (fun i _ => ps.length - (intOf i).toNat)
      case atStart => exact ⟨0, Nat.zero_le _, rfl, by simpa [allB] using HR9.out, HB9.out⟩
      case round =>
        obtain ⟨j, hj, rfl, hRq, hBq⟩ := hrel
        have HRQ := hid hRq
        have HBQ := hid hBq
        have hszq := hBq.size
        have hblt := hRq.lt
        clear hRq hBq HR9 HB9
        by_cases hjn : j < ps.length
        · obtain ⟨d, hd⟩ : ∃ d, ps[j]? = some d := ⟨_, List.getElem?_eq_getElem hjn⟩
          have HE := hid (allB_snoc hd)
          have HAT := hid (back_at hd bs1)
          obtain ⟨pK, pU, pI, pT, hok⟩ := HP.out j d hd
          have cK := (HBQ.out.cell (p := ⟨g, o + j * 4, none⟩) hlt).trans pK
          have cU := (HBQ.out.cell (p := ⟨g, o + j * 4 + 1, none⟩) hlt).trans pU
          have cI := (HBQ.out.cell (p := ⟨g, o + j * 4 + 2, none⟩) hlt).trans pI
          have cT := (HBQ.out.cell (p := ⟨g, o + j * 4 + 3, none⟩) hlt).trans pT
          have HOK := hid hok
          clear pK pU pI pT hok hd
          obtain ⟨dk, du, di, dtv, dss⟩ := d
          simp only [PutD.bytes] at cK cU cI cT HE HOK HAT
          obtain ⟨ao, cp, rfl⟩ := HOK.out.strs.shape
          rw [← HBS.out] at HAT
          generalize allB (ps.drop (j + 1)) ++ bs1 = rr at *
          have HLA := hid (by rw [HE.out, List.length_append] : (allB (ps.take (j + 1))).length = (allB (ps.take j)).length + (putB dk du di dss).length)
          generalize (allB (ps.take j)).length = a at *
          have HA := hid (below_walk wr (.cells #[.int .i64 dk, .int .u64 du, .int .i64 di, .slice ao dss.length cp] 27))
          have HRA := hid (HRQ.out.below HA.out)
          have HBA := hid (HBQ.out.trans (HA.out.mono hszq))
          clear HRQ HA
          by_cases h0 : ((wrap64 (dk.tmod 5 + 5)).tmod 5 == 0) = true
          · have HPB := hid (putB0 (U := du) (I := di) (ss := dss) h0 : putB dk du di dss = sn du)
            have HC := hid (uint_go base b v BS a 0 (wr.alloc (.cells #[.int .i64 dk, .int .u64 du, .int .i64 di, .slice ao dss.length cp] 27)).drew HRA.out.drew 0 du (sn du).length (by rw [HAT.out, HPB.out]; exact dec_sn du rr HOK.out.u))
            go_wp2_with fail
            go_region_with (go_at_call 20; go_must (refine Calls.mono HC.out ?_); rintro e w5 ⟨rfl, hR5, hg5⟩; have n5 : w5.cell? ⟨wr.heap.size, 1, none⟩ = some (.int .u64 du) := cell_far (p := ⟨wr.heap.size, 1, none⟩) hg5 (by simp) (by show wr.heap.size ≠ b; omega) (by simp); have HR5 := hid hR5; have HG5 := hid hg5; clear hR5 hg5)
            all_goals
              have HRN := hid (by rw [HLA.out, HPB.out]; exact HR5.out : Rd w5 base b v BS (allB (ps.take (j + 1))).length 0 0)
              have HBN := hid (Below.of_gb HBA.out.drew HG5.out hbw)
              clear HR5 HG5 n5 cK cU cI cT
              go_wp2
              go_roundw
              case rel => exact ⟨j + 1, by omega, by go_num, HRN.out, HBN.out⟩
              case measure => simp [intOf]; omega
          by_cases h1 : ((wrap64 (dk.tmod 5 + 5)).tmod 5 == 1) = true
          · have h0' : ((wrap64 (dk.tmod 5 + 5)).tmod 5 == 0) = false := by simpa using h0
            have HPB := hid (putB1 (U := du) (I := di) (ss := dss) h0' h1 : putB dk du di dss = sn (zz di))
            have HC := hid (uz_zz di HOK.out.i0 HOK.out.i1 ▸ int_go base b v BS a 0 (wr.alloc (.cells #[.int .i64 dk, .int .u64 du, .int .i64 di, .slice ao dss.length cp] 27)).drew HRA.out.drew 0 (zz di) (sn (zz di)).length (by rw [HAT.out, HPB.out]; exact dec_sn (zz di) rr (zz_lt HOK.out.i0 HOK.out.i1)))
            clear h0
            go_wp2_with fail
            go_region_with (go_at_call 21; go_must (refine Calls.mono HC.out ?_); rintro e w5 ⟨rfl, hR5, hg5⟩; have n5 : w5.cell? ⟨wr.heap.size, 2, none⟩ = some (.int .i64 di) := cell_far (p := ⟨wr.heap.size, 2, none⟩) hg5 (by simp) (by show wr.heap.size ≠ b; omega) (by simp); have HR5 := hid hR5; have HG5 := hid hg5; clear hR5 hg5)
            all_goals
              have HRN := hid (by rw [HLA.out, HPB.out]; exact HR5.out : Rd w5 base b v BS (allB (ps.take (j + 1))).length 0 0)
              have HBN := hid (Below.of_gb HBA.out.drew HG5.out hbw)
              clear HR5 HG5 n5 cK cU cI cT
              go_wp2
              go_roundw
              case rel => exact ⟨j + 1, by omega, by go_num, HRN.out, HBN.out⟩
              case measure => simp [intOf]; omega
          by_cases h2 : ((wrap64 (dk.tmod 5 + 5)).tmod 5 == 2) = true
          · have h0' : ((wrap64 (dk.tmod 5 + 5)).tmod 5 == 0) = false := by simpa using h0
            have h1' : ((wrap64 (dk.tmod 5 + 5)).tmod 5 == 1) = false := by simpa using h1
            have HPB := hid (putB2 (U := du) (I := di) (ss := dss) h0' h1' h2 : putB dk du di dss = [if (((du : Int) % 2) == 1) = true then 1 else 0])
            have hal : a < BS.length := by
              have q := congrArg List.length HAT.out
              rw [HPB.out] at q
              simp at q
              omega
            have hby : BS.getD a 0 = if (((du : Int) % 2) == 1) = true then 1 else 0 := by rw [getD_drop, HAT.out, HPB.out]; rfl
            have HC := hid (by
              have q := bool_ok base b v BS a 0 (wr.alloc (.cells #[.int .i64 dk, .int .u64 du, .int .i64 di, .slice ao dss.length cp] 27)).drew HRA.out.drew hal (by rw [hby]; split <;> simp)
              have q2 : ((((BS.getD a 0).toNat : Nat) : Int) == 1) = (((du : Int) % 2) == 1) := by
                rw [hby]
                cases (((du : Int) % 2) == 1) <;> rfl
              rw [q2] at q
              exact q : Calls Try.prog 22 #[.pointer (some ⟨b, 0, none⟩)] (wr.alloc (.cells #[.int .i64 dk, .int .u64 du, .int .i64 di, .slice ao dss.length cp] 27)).drew fun e w' => e = .returned (.bool (((du : Int) % 2) == 1)) ∧ Rd w' base b v BS (a + 1) 0 0 ∧ (wr.alloc (.cells #[.int .i64 dk, .int .u64 du, .int .i64 di, .slice ao dss.length cp] 27)).drew.grownBy w' (some b))
            clear h0 h1 hby hal
            go_wp2_with fail
            go_region_with (go_at_call 22; go_must (refine Calls.mono HC.out ?_); rintro e w5 ⟨rfl, hR5, hg5⟩; have n5 : w5.cell? ⟨wr.heap.size, 1, none⟩ = some (.int .u64 du) := cell_far (p := ⟨wr.heap.size, 1, none⟩) hg5 (by simp) (by show wr.heap.size ≠ b; omega) (by simp); have HR5 := hid hR5; have HG5 := hid hg5; clear hR5 hg5)
            all_goals
              have HRN := hid (by rw [HLA.out, HPB.out]; exact HR5.out : Rd w5 base b v BS (allB (ps.take (j + 1))).length 0 0)
              have HBN := hid (Below.of_gb HBA.out.drew HG5.out hbw)
              clear HR5 HG5 n5 cK cU cI cT
              go_wp2
              go_roundw
              case rel => exact ⟨j + 1, by omega, by go_num, HRN.out, HBN.out⟩
              case measure => simp [intOf]; omega
          by_cases h3 : ((wrap64 (dk.tmod 5 + 5)).tmod 5 == 3) = true
          · have h0' : ((wrap64 (dk.tmod 5 + 5)).tmod 5 == 0) = false := by simpa using h0
            have h1' : ((wrap64 (dk.tmod 5 + 5)).tmod 5 == 1) = false := by simpa using h1
            have h2' : ((wrap64 (dk.tmod 5 + 5)).tmod 5 == 2) = false := by simpa using h2
            have HPB := hid (putB3 (U := du) (I := di) (ss := dss) h0' h1' h2' h3 : putB dk du di dss = txs dss)
            have hcnt := txs_count dss
            have hdl := HOK.out.len
            clear h0 h1 h2
            go_wp2_with fail
            go_loopw [11, 74] (fun ok i wz => ∃ n : Nat, n ≤ dss.length ∧ ok = .bool true ∧ i = .int .i64 n ∧ Rd wz base b v BS (a + (txs (dss.take n)).length) 0 0 ∧ Below w.heap.size w wz) (fun _ i _ => dss.length - (intOf i).toNat)
            case atStart => exact ⟨0, Nat.zero_le _, rfl, rfl, by simpa [txs] using HRA.out, HBA.out⟩
            case round =>
              obtain ⟨n, hn2, rfl, rfl, hRz, hBz⟩ := hrel
              have HRZ := hid hRz
              have HBZ := hid hBz
              clear hRz hBz HRA HBA cK cU cI cT
              by_cases hnn : n < dss.length
              · obtain ⟨g2, o2, hao, hcs⟩ : ∃ g2 o2, ao = some ⟨g2, o2, none⟩ ∧ wr.cell? ⟨g2, o2 + n, none⟩ = some (.string (dss.getD n ByteArray.empty)) := by
                  rcases HOK.out.strs with ⟨_, _, _, h⟩ | ⟨g2, o2, c2, hv2, hl2, hc2⟩
                  · rw [h] at hnn; simp at hnn
                  · simp only [Value.slice.injEq] at hv2
                    exact ⟨g2, o2, hv2.1, (HBZ.out.cell (p := ⟨g2, o2 + n, none⟩) hl2).trans (hc2 n hnn)⟩
                subst hao
                have HSN := hid (txs_snoc dss n hnn)
                obtain ⟨t, HT⟩ : ∃ t, Hid (dss.getD n ByteArray.empty = t) := ⟨_, rfl⟩
                have hs1 : t.size ≤ 1099511627776 := by
                  have q1 := txs_step dss n hnn
                  have q2 := txs_take_le dss (n + 1)
                  rw [HT.out] at q1
                  omega
                have hsl : t.data.toList.length = t.size := by simp
                have HTX := hid (by
                  have e1 : BS.drop (a + (txs (dss.take n)).length) = tx t ++ (txs (dss.drop (n + 1)) ++ rr) := by
                    rw [← List.drop_drop, HAT.out, HPB.out]
                    have e2 : txs dss = txs (dss.take (n + 1)) ++ txs (dss.drop (n + 1)) := by rw [← txs_append, List.take_append_drop]
                    rw [e2, txs_snoc dss n hnn, HT.out]
                    simp
                  have e3 : tx t ++ (txs (dss.drop (n + 1)) ++ rr) = sn t.data.toList.length ++ (t.data.toList ++ (txs (dss.drop (n + 1)) ++ rr)) := by unfold tx; rw [hsl]; simp
                  rw [e1, e3]
                  exact txt_back _ _ _ (by omega) (by omega) : txt (BS.drop (a + (txs (dss.take n)).length)) t.size = (0, t.data.toList, (sn t.data.toList.length).length + t.data.toList.length))
                have HTL := hid (by rw [txs_snoc dss n hnn, HT.out, List.length_append, tx_length, hsl]; omega : a + (txs (dss.take (n + 1))).length = a + (txs (dss.take n)).length + ((sn t.data.toList.length).length + t.data.toList.length))
                rw [HT.out] at hcs
                clear hsl
                have HC := hid (by
                  have q := textr_go base b v BS _ 0 wr t.size (by omega) HRZ.out (by omega) _ _ _ HTX.out
                  have q2 : (⟨t.data.toList.toArray⟩ : ByteArray) = t := by simp
                  rw [q2] at q
                  exact q : Calls Try.prog 23 #[.pointer (some ⟨b, 0, none⟩), .int .i64 t.size] wr fun e w' => e = .returned (.string t) ∧ Rd w' base b v BS (a + (txs (dss.take n)).length + ((sn t.data.toList.length).length + t.data.toList.length)) ((0 : Nat) : Int) (watOf 0 (a + (txs (dss.take n)).length) 0) ∧ wr.grownBy w' (some b))
                go_wp2_with fail
                refine Calls.mono HC.out ?_
                rintro e w5 ⟨rfl, hR5, hg5⟩
                have HRN := hid (by rw [HTL.out]; exact hR5 : Rd w5 base b v BS (a + (txs (dss.take (n + 1))).length) 0 0)
                have HBN := hid (Below.of_gb HBZ.out hg5 hbw)
                clear hR5 hg5 HC HTX HRZ HBZ hcs
                go_wp2
                go_roundw
                case rel => exact ⟨n + 1, by omega, by trivial, by go_num, HRN.out, HBN.out⟩
                case measure => simp [intOf]; omega
              · have hte : dss.take n = dss := List.take_of_length_le (by omega)
                rw [hte] at HRZ
                have HRN := hid (by rw [HLA.out, HPB.out]; exact HRZ.out : Rd wr base b v BS (allB (ps.take (j + 1))).length 0 0)
                clear hte HRZ
                go_wp2
                go_roundw
                case rel => exact ⟨j + 1, by omega, by go_num, HRN.out, HBZ.out⟩
                case measure => simp [intOf]; omega
          have h0' : ((wrap64 (dk.tmod 5 + 5)).tmod 5 == 0) = false := by simpa using h0
          have h1' : ((wrap64 (dk.tmod 5 + 5)).tmod 5 == 1) = false := by simpa using h1
          have h2' : ((wrap64 (dk.tmod 5 + 5)).tmod 5 == 2) = false := by simpa using h2
          have h3' : ((wrap64 (dk.tmod 5 + 5)).tmod 5 == 3) = false := by simpa using h3
          have h4 : ((wrap64 (dk.tmod 5 + 5)).tmod 5 == 4) = true := by
            have q := five_range dk
            unfold five at q
            simp at h0 h1 h2 h3 ⊢
            omega
          clear h0 h1 h2 h3
          have HPB := hid (putB4 (K := dk) (U := du) (I := di) (ss := dss) h0' h1' h2' h3' : putB dk du di dss = ls dss)
          have hdl := HOK.out.len
          have hcnt := txs_count dss
          have HLST := hid (fun L hL2 hL1 => by
            have q := lst_back (dss.map fun s => s.data.toList) rr L (by intro t ht; obtain ⟨s, hs, rfl⟩ := List.mem_map.1 ht; have := hL2 s hs; simpa using this) (by omega) (by simp; omega)
            rw [unmk, List.length_map] at q
            rw [HAT.out, HPB.out]
            exact q : ∀ L : Nat, (∀ s ∈ dss, s.size ≤ L) → L ≤ 1099511627776 → lst (BS.drop a) dss.length L = (0, dss.map (fun s => s.data.toList), (ls dss).length))
          have HST := hid (fun X hX => HOK.out.strs.below hX : ∀ X, Below w.heap.size w X → Strs X (.slice ao dss.length cp) dss)
          go_wp2_with fail
          clear cK cU cI cT
          go_region_held3 (fun w' => w'.cell? ⟨wr.heap.size, 3, none⟩ = some (.slice ao dss.length cp)) (first | go_keep | assumption | simpa using n5) (first
            | (go_at_call 26; go_must (refine (longest_any _ dss _ (HST.out _ (by exact HBA.out.drew)) (by omega)).mono ?_); rintro e w4 ⟨L, rfl, hL1, hL2, rfl⟩; have HL2 := hid hL2; clear hL2)
            | (go_at_call 25; go_must (refine (listr_go base b v BS a 0 _ dss.length L (by omega) (by omega) (by exact HRA.out.drew) (by omega) 0 (ls dss).length (dss.map fun s => s.data.toList) (HLST.out L HL2.out hL1)).mono ?_); rintro e w5 ⟨v5, rfl, hO5, _, hR5, _, hg5⟩; have n5 : w5.cell? ⟨wr.heap.size, 3, none⟩ = some (.slice ao dss.length cp) := cell_far (p := ⟨wr.heap.size, 3, none⟩) hg5 (by simp) (by show wr.heap.size ≠ b; omega) (by simp); have HR5 := hid (hR5 rfl); have HG5 := hid hg5; have HS5 := hid (unmk dss ▸ hO5.strs : Strs w5 v5 dss); clear hR5 hg5 hO5)
            | (go_at_call 24; go_must (refine (same_true _ _ dss _ (by exact HS5.out) (HST.out _ (by exact Below.of_gb HBA.out.drew HG5.out hbw)) (by omega)).mono ?_); rintro e w6 ⟨rfl, q6, rfl⟩))
          all_goals
            have HRN := hid (by rw [HLA.out, HPB.out]; exact HR5.out : Rd w5 base b v BS (allB (ps.take (j + 1))).length 0 0)
            have HBN := hid (Below.of_gb HBA.out.drew HG5.out hbw)
            clear HR5 HG5 n5
            go_wp2
            go_roundw
            case rel => exact ⟨j + 1, by omega, by go_num, HRN.out.drewN _, below_drewN HBN.out _⟩
            case measure => simp [intOf]; omega
        · have hte : ps.take j = ps := List.take_of_length_le (by omega)
          rw [hte] at HRQ
          clear hte
          have HLN := hid (by rw [HBS.out]; simp; omega : (BS.length : Int) - ((allB ps).length : Int) = (bs1.length : Int))
          go_wp2_with fail
          refine (rfault_any _ _ _ _ _ _ _ _ HRQ.out).mono ?_
          rintro e w5 ⟨rfl, hb5⟩
          have HR5 := hid (HRQ.out.below hb5)
          have HB5 := hid (HBQ.out.trans (hb5.mono HBQ.out.size))
          have HC := hid (by have q := rleft_any base b v BS _ 0 0 w5 HR5.out; rw [HLN.out] at q; exact q : Calls Try.prog 29 #[.pointer (some ⟨b, 0, none⟩)] w5 fun e w' => e = .returned (.int .i64 bs1.length) ∧ ∃ k, w' = w5.drewN k)
          clear hb5 HRQ HBQ
          go_wp2_with fail
          refine (rat_any _ _ _ _ _ _ _ _ HR5.out).mono ?_
          rintro e w6 ⟨rfl, rfl⟩
          go_wp2_with fail
          refine Calls.mono HC.out ?_
          rintro e w7 ⟨rfl, q7, rfl⟩
          go_wp2
          go_ret
          exact ⟨rfl, below_drewN HB5.out _⟩

set_option maxRecDepth 100000 in
set_option maxHeartbeats 1000000 in
theorem lawBack_none (ao : Option Addr) (c : Nat) (v1 : Value) (bs1 : List UInt8) (w : World) (hs : Src w v1 bs1) (hb1 : bs1.length ≤ 1048576) :
    Calls Try.prog 5 #[.slice ao 0 c, v1] w fun e w' => e = .returned (.bool true) ∧ Below w.heap.size w w' := by
  have HS := hid hs
  obtain ⟨av, cv, hv1⟩ : ∃ a0 c0, v1 = .slice a0 bs1.length c0 := by
    obtain ⟨_, ⟨h1, h2⟩ | ⟨ad, cp, h1, _⟩⟩ := hs
    · exact ⟨none, 0, by rw [h1, h2]; rfl⟩
    · exact ⟨_, _, h1⟩
  subst hv1
  clear hs
  go_enter Try.func5, Try.ntmps5
  go_wp2
  go_loop [5, 16] (fun x i => x = .slice none 0 0 ∧ i = .int .i64 0) (fun _ _ => 0)
  case atStart => exact ⟨rfl, rfl⟩
  case round =>
    obtain ⟨rfl, rfl⟩ := hrel
    go_wp2_with (at_builtin; refine app_src rfl _ _ rfl w.heap.size _ _ rfl (OwnB.nil _ _) _ [] rfl ⟨by simp, Or.inl ⟨rfl, rfl⟩⟩ ?c1 (Nat.le_refl _) ?_)
    intro v6 w6 ho6 hg6
    have HO6 := hid (by simpa using ho6 : OwnB w6 w.heap.size v6 [])
    have HB6 := hid (gb_below hg6)
    have hz6 : w.heap.size ≤ w6.heap.size := hg6.size
    clear ho6 hg6
    go_wp2_with (at_builtin; refine app_src rfl _ _ rfl w.heap.size _ _ rfl HO6.out _ _ rfl (HS.out.below HB6.out) ?d1 hz6 ?_)
    case d1 => simp; omega
    intro v7 w7 ho7 hg7
    have HO7 := hid (by simpa using ho7 : OwnB w7 w.heap.size v7 bs1)
    have HB7 := hid (HB6.out.grown hg7 (by omega) (fun j e => (HO6.out.lt j e).1))
    have hz7 : w6.heap.size ≤ w7.heap.size := hg7.size
    clear ho7 hg7
    go_wp2_with fail
    refine (newReader_any _ _ _ (HO7.out.src (by omega))).mono ?_
    rintro e w8 ⟨b, v, rfl, hR8, hb8⟩
    have HR8 := hid hR8
    have HB8 := hid (HB7.out.trans (hb8.mono (by omega)))
    clear hR8 hb8
    go_wp2_with fail
    refine (alive_true _).mono ?_
    rintro e w9 ⟨rfl, hb9⟩
    have HR9 := hid (HR8.out.below hb9)
    have HB9 := hid (HB8.out.trans (hb9.mono HB8.out.size))
    clear hb9 HR8 HB8 HB7 HO7 HO6 HB6
    go_wp2_with fail
    go_loop [37] (fun i => i = .int .i64 0) (fun _ => 0)
    case atStart => rfl
    case round =>
      subst hrel
      go_wp2_with fail
      refine (rfault_any _ _ _ _ _ _ _ _ HR9.out).mono ?_
      rintro e w5 ⟨rfl, hb5⟩
      have HR5 := hid (HR9.out.below hb5)
      have HB5 := hid (HB9.out.trans (hb5.mono HB9.out.size))
      clear hb5
      go_wp2_with fail
      refine (rat_any _ _ _ _ _ _ _ _ HR5.out).mono ?_
      rintro e w6 ⟨rfl, rfl⟩
      go_wp2_with fail
      refine (rleft_any _ _ _ _ _ _ _ _ HR5.out).mono ?_
      rintro e w7 ⟨rfl, q7, rfl⟩
      go_wp2
      go_ret
      exact ⟨rfl, below_drewN HB5.out _⟩

theorem lawBack_any (v0 : Value) (ps : List PutD) (v1 : Value) (bs1 : List UInt8) (w : World) (h : PutsAt w v0 ps) (hn : ps.length ≤ 1048576) (hl : (allB ps).length ≤ 11534336) (hs : Src w v1 bs1) (hb1 : bs1.length ≤ 1048576) :
    Calls Try.prog 5 #[v0, v1] w fun e w' => e = .returned (.bool true) ∧ Below w.heap.size w w' := by
  rcases h with ⟨ao, c, rfl, rfl⟩ | ⟨g, o, c, rfl, hlt, hp⟩
  · exact lawBack_none ao c v1 bs1 w hs hb1
  · exact lawBack_some g o c ps v1 bs1 w hn hlt hl hs hb1 hp

end Go.Proofs.Ytggmgbdofjhkdaa
