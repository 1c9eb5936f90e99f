package till

import "larder/api"

// rules answers what is done at an act, by its kind. What that answers is not told.
func (n *engine) rules() map[int]func(api.Act) {
	return map[int]func(api.Act){
		api.ActAsk:   n.playAsk,
		api.ActPick:  n.playPick,
		api.ActRun:   n.playRun,
		api.ActCrash: n.playCrash,
	}
}

func (n *engine) playAsk(a api.Act) { n.ask(a.H, a.Request) }

// playPick picks a handler as long as it can go on: what it waits for, or a request for it, comes by another act.
func (n *engine) playPick(a api.Act) {
	for picks := 0; picks < a.N && n.pick(a.H); picks++ {
	}
}

func (n *engine) playRun(a api.Act) { n.run(a.N) }

func (n *engine) playCrash(a api.Act) { n.crash(a.Crash) }
