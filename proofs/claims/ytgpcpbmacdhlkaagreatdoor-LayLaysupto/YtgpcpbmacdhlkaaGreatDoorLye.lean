/- The law LayLays,of a Layout that lays out. -/
import Derived.Test.YtgpcpbmacdhlkaaGreatDoorLz
import Derived.Test.YtgpcpbmacdhlkaaGreatDoorLkw
import Derived.Test.YtgpcpbmacdhlkaaGreatDoorEra
namespace Go.Proofs.YtgpcpbmacdhlkaaGreatDoor
open Go.RowKit
open M
set_option maxRecDepth 100000 in
set_option maxHeartbeats 4000000 in
theorem layLays_any (hL:LayC) (s:ByteArray) (w:World) (hT:Tabs w) (hE:ErrT w) (hs:s.size≤1048576) :
  Calls Tryz.prog 3 #[.string s] w fun e w'=>e=.returned (.bool true)∧Below w.heap.size w w':=by
 have hfew:=toks_few s
 have hbl:=bs_len s
 have HY:=hide (fun W=>ylayout_any s W hs)
 have HS:=hide (fun (k:Int) (W:World) (h:ErrT W)=>error_same k W h)
 cases hc:X.clns (X.fileL (X.xt (bs s))) with
 | false =>
  have HLay:=hide (hL s w hT (by omega) (by omega) (fun h=>by rw [hc] at h;cases h))
  rw [hc,if_neg (by simp)] at HLay HY
  have HS3:=hide (fun W (h:ErrT W)=>by
   have:=(HS.out) 3 W h
   rw [show errV 3=.iface 45 (.int .i64 3) from rfl] at this
   exact this)
  have HE:=hide hE
  clear hL hc hfew hbl hT hE HS
  go_enter Tryz.func3,Tryz.ntmps3
  go_wp2_with fail
  refine (HLay.out).mono ?_
  rintro e w1 ⟨rfl,k1⟩
  have K1:=hide k1
  clear k1
  go_wp2_with fail
  refine ((HY.out) w1).mono ?_
  rintro e w2 ⟨rfl,k2⟩
  have K2:=hide ((K1.out).trans (k2.mono (K1.out).size))
  clear k2
  go_wp2_with fail
  refine ((HS3.out) w2 ((HE.out).below K2.out)).mono ?_
  rintro e w3 ⟨rfl,k3⟩
  have K3:=hide ((K2.out).trans (k3.mono (K2.out).size))
  clear k3
  go_wp2_with fail
  go_ret
  exact ⟨rfl,K3.out⟩
 | true =>
  have hlen:=X.layOf_len hc
  have HLay:=hide (hL s w hT (by omega) (by omega) (fun _=>by omega))
  rw [hc,if_pos rfl] at HLay HY
  have HS0:=hide (fun W (h:ErrT W)=>by
   have:=(HS.out) 0 W h
   rw [show errV 0=.nilIface from rfl] at this
   exact this)
  have HE:=hide hE
  clear hL hc hfew hbl hT hE HS hlen
  generalize ba (X.layOf (bs s))=U at *
  go_enter Tryz.func3,Tryz.ntmps3
  go_wp2_with fail
  refine (HLay.out).mono ?_
  rintro e w1 ⟨rfl,k1⟩
  have K1:=hide k1
  clear k1
  go_wp2_with fail
  refine ((HY.out) w1).mono ?_
  rintro e w2 ⟨rfl,k2⟩
  have K2:=hide ((K1.out).trans (k2.mono (K1.out).size))
  clear k2
  go_wp2_with fail
  refine ((HS0.out) w2 ((HE.out).below K2.out)).mono ?_
  rintro e w3 ⟨rfl,k3⟩
  have K3:=hide ((K2.out).trans (k3.mono (K2.out).size))
  clear k3
  go_wp2_with fail
  go_ret
  exact ⟨by simp,K3.out⟩
end Go.Proofs.YtgpcpbmacdhlkaaGreatDoor
