import Derived.Test.YtoohcklcppnafaaGreatDoorBzb
import Derived.Test.YtoohcklcppnafaaGreatDoorEra
namespace Go.Proofs.YtoohcklcppnafaaGreatDoor
set_option maxRecDepth 100000
set_option maxHeartbeats 4000000
open Tryz
open Go.RowKit
open M
theorem sw.here{w w':aG}{ao:Option Addr}{l:List AF}(h:sw w w.heap.size ao l)(hk:Below w.heap.size w w'):sw w' w'.heap.size ao l:=fun j a hj=>by
 obtain⟨b,o,e1,e2,e3,e4⟩:=h.below hk j a hj;exact⟨b,o,e1,aJ e2 hk.size,e3,e4⟩
theorem QS{l:List AF}(h:pW l≠0):(.iface 49 (ak (pW l)):Value)=NQ (pW l):=by
 unfold NQ;rw[aM au]
theorem Gn(ao:Option Addr)(cap:Nat)(l:List AF)(w:aG)(hT:nE w)(hE:Em w)(h:sw w w.heap.size ao l)(hl:l.length≤cap)(hc:cap≤maxLen)(hb:l.length≤1073741823)(hs:∀ a∈l,a.n.size≤1073741824)(hf:pW l≠0) :
  bB 3 #[.slice ao l.length cap] w (cK (.bool true) fun w'=>Below w.heap.size w w'):=by
 have ug:=aA (Kb ao cap l w hT h hl hc hf);have HH:=aA h;have HEr:=aA hE;have HSz:=aA hs;have Zg:=aA (QS hf);have j1:((pW l:Int) !=0)=true:=aQ
 clear hT hE h hs hf;go_enter func3,ntmps3;go_wp2_with fail
 refine(ug.o).aX fun w1 k1=>?_;have nC:=aA (Aa ao cap l w1 ((HH.o).here k1) hb);have HB1:=aA k1;clear k1 ug;go_wp2_with fail
 refine(nC.o).mono ?_;rintro e w2 ⟨rv,rfl,H2⟩;have uh:=aA (Ab rv l w2 _ (H2.o).1 HSz.o hb);have HB2:=aA <| (HB1.o).trans ((H2.o).2.mono (HB1.o).size);clear nC HB1 H2;go_wp2_with fail
 refine(uh.o).aX fun w3 k3=>?_;have HB3:=aA <| (HB2.o).trans (k3.mono (HB2.o).size);have Ai:=aA (Aj (pW l) w3 ((HEr.o).below HB3.o));rw[← Zg.o] at Ai;clear uh HB2 k3;generalize pW l=r at *;go_wp2_with fail
 refine(Ai.o).aX fun w4 k4=>?_;have FV:=aA <| (HB3.o).trans (k4.mono (HB3.o).size);clear Ai HB3 k4;go_wp2_with fail
 go_ret;exact⟨rfl,FV.o⟩
theorem En(ao:Option Addr)(cap:Nat)(l:List AF)(w:aG)(hT:nE w)(hE:Em w)(h:sw w w.heap.size ao l)(hl:l.length≤cap)(hc:cap≤maxLen)(hb:l.length≤1073741823)(hs:∀ a∈l,a.n.size≤1073741824)(hf:pW l=0) :
  bB 3 #[.slice ao l.length cap] w (cK (.bool true) fun w'=>Below w.heap.size w w'):=by
 have ug:=aA (Gp ao cap l w hT h hl hc hf);obtain⟨hn16,hsh,hok,hpw⟩:=Me hf;have HNw:=aA (fun rv w' B hF=>QM rv l w' B hF hn16 hsh hok);have HH:=aA h;have HEr:=aA hE;have HSz:=aA hs;have HFl:=aA hf;clear hT hE h hs hsh hok hpw hf;go_enter func3,ntmps3;go_wp2_with fail
 refine(ug.o).mono ?_;rintro e w1 ⟨nv,rfl,H1⟩;obtain⟨k1,hrow,FX⟩:=H1.o;have nC:=aA (Aa ao cap l w1 ((HH.o).here k1) hb);have HB1:=aA k1;have lT:=aA hrow;clear k1 ug H1 hrow;go_wp2_with fail
 refine(nC.o).mono ?_;rintro e w2 ⟨rv,rfl,H2⟩;have uh:=aA (Ab rv l w2 _ (H2.o).1 HSz.o hb);rw[HFl.o] at uh;have HB2:=aA <| (HB1.o).trans ((H2.o).2.mono (HB1.o).size);have Mc:=aA ((Kp.aN (H2.o).2 (fun _=>False)).owns lT.o (fun _ _=>id));have HF2:=aA (H2.o).1;clear nC HB1 H2 lT;go_wp2_with fail
 refine(uh.o).aX fun w3 k3=>?_;have HB3:=aA <| (HB2.o).trans (k3.mono (HB2.o).size);have XG:=aA ((Kp.aN k3 (fun _=>False)).owns Mc.o (fun _ _=>id));have yT:Hid (Eh w3 w1.heap.size rv l):=(Kp.aN k3 (fun _=>False)).owns HF2.o (fun _ _=>id);have Ai:=aA (Aj 0 w3 ((HEr.o).below HB3.o));rw[show NQ 0=.nilIface from rfl] at Ai;clear uh HB2 k3 Mc HF2;go_wp2_with fail
 refine(Ai.o).aX fun w4 k4=>?_;have FV:=aA <| (HB3.o).trans (k4.mono (HB3.o).size);have XH:=aA ((Kp.aN k4 (fun _=>False)).owns XG.o (fun _ _=>id));have HF4:Hid (Eh w4 w1.heap.size rv l):=(Kp.aN k4 (fun _=>False)).owns yT.o (fun _ _=>id);have Gq:=aA ((HNw.o) rv w4 _ HF4.o);clear Ai HB3 k4 XG yT;go_wp2_with fail
 refine(Gq.o).mono ?_;rintro e w5 ⟨dv,rfl,H5⟩;obtain⟨hcell,Gr,k5,jm⟩:=H5.o;have FW:=aA <| (FV.o).trans (k5.mono (FV.o).size);have XI:=aA ((Kp.aN k5 (fun _=>False)).owns XH.o (fun _ _=>id));have Ec:=aA (NN XI.o Gr FX);clear Gq FV k5 XH H5 Gr XI;go_wp2_with fail
 refine(Ec.o).aX fun w6 k6=>?_;have Zh:=aA <| (FW.o).trans (k6.mono (FW.o).size);clear Ec FW k6 hcell;go_wp2_with fail
 go_ret;exact⟨rfl,Zh.o⟩
theorem Eo(ao:Option Addr)(cap:Nat)(l:List AF)(w:aG)(hT:nE w)(hE:Em w)(h:sw w w.heap.size ao l)(hl:l.length≤cap)(hc:cap≤maxLen)(hb:l.length≤1073741823)(hs:∀ a∈l,a.n.size≤1073741824) :
  bB 3 #[.slice ao l.length cap] w (cK (.bool true) fun w'=>Below w.heap.size w w'):=by
 by_cases hf:pW l=0
 ·exact En ao cap l w hT hE h hl hc hb hs hf
 ·exact Gn ao cap l w hT hE h hl hc hb hs hf
end Go.Proofs.YtoohcklcppnafaaGreatDoor
