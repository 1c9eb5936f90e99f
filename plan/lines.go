package plan

import "larder/api"

// follows says whether a text is a code, and above the one ahead of it. Ahead of the first one stands the empty text, which all codes are above.
func follows(code, ahead string) bool {
	return code > ahead && len(code) <= api.MaxCode
}

// within says whether a number of goods is one, and not below least.
func within(n, least int) bool { return n >= least && n <= api.MaxQty }

// wrongLine answers the place of the first line that is none, or does not rise, and whether there is one. No number may be below least.
func wrongLine(lines []api.Line, least int) (int, bool) {
	ahead := ""
	for i, l := range lines {
		if !follows(l.Code, ahead) || !within(l.Qty, least) {
			return i, true
		}
		ahead = l.Code
	}
	return 0, false
}

func wrongDepot(d api.Depot) bool {
	if d.Far < 0 || d.Far > api.MaxFar || len(d.Stock) > api.MaxGoods {
		return true
	}
	_, wrong := wrongLine(d.Stock, 0)
	return wrong
}

// wrongItem answers the place of the first item that is none, or does not rise, and whether there is one.
func wrongItem(items []api.Item) (int, bool) {
	ahead := ""
	for i, x := range items {
		if !follows(x.Code, ahead) || !within(x.Have, 0) || !within(x.Coming, 0) || !within(x.Point, 0) || !within(x.Upto, 0) || !within(x.Pack, 1) {
			return i, true
		}
		ahead = x.Code
	}
	return 0, false
}

// wanted answers how many of an item are to be ordered.
func wanted(x api.Item) int {
	there := x.Have + x.Coming
	if there > x.Point || there >= x.Upto {
		return 0
	}
	packs := (x.Upto - there + x.Pack - 1) / x.Pack
	return packs * x.Pack
}
