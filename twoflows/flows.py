"""What flows between two places, told for rows of pairs."""

MOST_PAIRS = 4096
# 2^30, so that no level is above 2^31.
HIGHEST = 1073741824


def has_too_high(row):
    for number in row:
        if number > HIGHEST:
            return True
    return False


def is_refused(a_grounds, a_waters, b_grounds, b_waters):
    # All four rows are equally long, so the first one tells for all.
    pairs = len(a_grounds)
    if pairs < 1 or pairs > MOST_PAIRS:
        return True
    if has_too_high(a_grounds) or has_too_high(a_waters):
        return True
    return has_too_high(b_grounds) or has_too_high(b_waters)


def flow_down(water, drop):
    return min(water // 4, drop // 8)


def flow_between(a_ground, a_water, b_ground, b_water):
    a_level = a_ground + a_water
    b_level = b_ground + b_water
    if a_level > b_level:
        return flow_down(a_water, a_level - b_level)
    if b_level > a_level:
        # The sign is turned after the rounding: // on a number below 0 would round away from 0.
        return -flow_down(b_water, b_level - a_level)
    return 0


def wf_flow(a_grounds, a_waters, b_grounds, b_waters):
    """Give back [0, -22], or [1, n, ..] with what flows from each place of a to that of b."""
    if is_refused(a_grounds, a_waters, b_grounds, b_waters):
        return [0, -22]
    pairs = len(a_grounds)
    told = [1, pairs]
    for i in range(pairs):
        told.append(flow_between(a_grounds[i], a_waters[i], b_grounds[i], b_waters[i]))
    return told
